/-
  The program's longer lists, by contract.
-/
import Derived.Test.YtkbdbkoeahihiaaNode
import Derived.Test.YtkbdbkoeahihiaaPtS
namespace Go.Proofs.Ytkbdbkoeahihiaa
open Go.RowKit
set_option linter.unusedVariables false
attribute [local go_sem] Oper.semAt_some

/-- Numbers of 1 and more with a sum of 6 at most. -/
def LoP (xs : List Int) : Prop := (∀ j, j < xs.length → 1 ≤ gi xs j) ∧ sumI xs ≤ 6
theorem LoP.len {xs : List Int} (h : LoP xs) : xs.length ≤ 6 := by have := sumI_ge_len xs h.1; have := h.2; omega
theorem LoP.nn {xs : List Int} (h : LoP xs) : 0 ≤ sumI xs := by have := sumI_ge_len xs h.1; omega
theorem LoP.take {xs : List Int} (h : LoP xs) (k : Nat) : sumI (xs.take k) ≤ 6 := Int.le_trans (sumI_take_le xs k h.1) h.2
theorem LoP.le {xs : List Int} (h : LoP xs) {j : Nat} (hj : j < xs.length) : 1 ≤ gi xs j ∧ gi xs j ≤ 6 := by
  have hp : Pt xs ∨ True := .inr trivial
  have h1 := h.1 j hj
  have h2 := h.take (j + 1)
  rw [sumI_take_succ hj] at h2
  have h3 : 0 ≤ sumI (xs.take j) := by
    have := sumI_ge_len (xs.take j) (fun i hi => by
      rw [List.length_take] at hi
      have := h.1 i (by omega)
      simpa [gi, List.getD, List.getElem?_take, (show i < j by omega)] using this)
    omega
  omega

set_option maxHeartbeats 800000 in
theorem lsum_any (A : Option Addr) (n c : Nat) (xs : List Int) (w : World) (h : Rd w A n xs) (hp : LoP xs) :
    Calls Try.prog 50 #[.slice A n c] w fun e w' => e = .returned (.int .i64 (sumI xs)) ∧ w' = w := by
  have hn6 : n ≤ 6 := by have := hp.len; rw [h.1] at this; exact this
  have H := Lib.hid h; have HP := Lib.hid hp; have Hx := Lib.hid h.1; clear h hp
  go_enter Try.func50, Try.ntmps50
  go_wp2_with fail
  go_loop [3, 8] (fun s i => ∃ (k : Nat) (t : Int), k ≤ n ∧ s = .int .i64 t ∧ i = .int .i64 k ∧ 0 ≤ t ∧ t ≤ 6 ∧ Hid (t = sumI (xs.take k))) (fun _ i => n - (intOf i).toNat)
  case atStart => exact ⟨0, 0, Nat.zero_le _, rfl, rfl, by decide, by decide, rfl⟩
  case round =>
    obtain ⟨k, t, hk, rfl, rfl, ht0, ht6, hT⟩ := hrel
    by_cases hlt : k < n
    · obtain ⟨ad, rfl, hc⟩ := H.out.at_ hlt
      have HK1 : Hid (sumI (xs.take (k + 1)) = t + gi xs k) := by rw [Hid, sumI_take_succ (by rw [Hx.out]; exact hlt), ← hT.out]
      have h6 : t + gi xs k ≤ 6 := by rw [← HK1.out]; exact HP.out.take _
      have h1 := HP.out.le (j := k) (by rw [Hx.out]; exact hlt)
      have hw := wadd (a := t) (b := gi xs k) (by omega) (by omega)
      go_wp2_with fail
      go_round
      case rel => exact ⟨k + 1, t + gi xs k, by omega, rfl, by go_num, by omega, h6, HK1.out.symm⟩
      case measure => simp [intOf]; omega
    · obtain rfl : k = n := by omega
      go_wp2_with fail
      go_ret
      exact ⟨ret_int (by rw [hT.out, ← Hx.out, sumI_take_all]), rfl⟩

set_option maxRecDepth 100000 in
set_option maxHeartbeats 800000 in
theorem clone_part (ad : Addr) (n c : Nat) (xs : List Int) (w : World) (h : Rd w (some ad) n xs) (hn : n ≤ 1048576) :
    Calls Try.prog 92 #[.slice (some ad) n c] w fun e w' => ∃ v, e = .returned v ∧ Own w' w.heap.size v xs ∧ Below w.heap.size w w' := by
  obtain ⟨i0, hinf, hz0, hz1, hz2⟩ := info_parts info_int
  have hb0 : Below w.heap.size w (w.alloc (.cells #[] 3)) := (Below.refl _ _).alloc (Nat.le_refl _) _
  have HNW := Lib.hid (h.below hb0).news
  have HLN : Hid ((ints xs).length = n * 1) := by rw [Hid, ints_len, h.1, Nat.mul_one]
  have HE : Hid (Own (w.alloc (.cells #[] 3)) w.heap.size (.slice (some ⟨w.heap.size, 0, none⟩) 0 0) []) := Own.empty (Nat.le_refl _)
  have HB0 := Lib.hid hb0; have Hx := Lib.hid h.1; clear hb0 h
  have hq := Lib.run_eql_slice_some_nil w ad n c Try.underlying48
  go_enter Try.func92, Try.ntmps92
  go_wp2_with (at_builtin; refine wpList_append_own _ rfl _ _ 48 rfl w.heap.size 3 i0 (.int .i64 0) 1 8 Try.underlying48 hinf hz0 hz1 hz2 rfl (by decide) _ 0 [] rfl HE.out ad n c (ints xs) rfl HLN.out HNW.out ints_one (by unfold maxLen; omega) (by omega) (by simp) ?_; intro v1 w1 hown1 hgrow1 _; have HO := Lib.hid hown1; have HG := Lib.hid hgrow1; clear hown1 hgrow1)
  go_ret
  refine ⟨_, rfl, ?_, HB0.out.grown HG.out (by simp) (fun k hk => (HE.out.lt k hk).1)⟩
  have := HO.out
  unfold Own
  rw [Hx.out]
  simpa using this

/-- Values that own lists, in blocks of their own. -/
def RowsOwn (w : World) (lo hi : Nat) (vs : List Value) (xss : List (List Int)) : Prop :=
  vs.length = xss.length ∧ (∀ j, j < xss.length → Own w lo (vs.getD j undef) (xss.getD j []) ∧ ∀ k, (vs.getD j undef).ownBlock = some k → k < hi) ∧
    ∀ j, j < xss.length → ∀ i, i < j → (vs.getD i undef).ownBlock = none ∨ (vs.getD i undef).ownBlock ≠ (vs.getD j undef).ownBlock
theorem RowsOwn.nil (w : World) (lo hi : Nat) : RowsOwn w lo hi [] [] := ⟨rfl, fun j hj => absurd hj (by simp), fun j hj => absurd hj (by simp)⟩
theorem RowsOwn.fix {w w' : World} {lo hi : Nat} {vs : List Value} {xss : List (List Int)} (h : RowsOwn w lo hi vs xss) (hf : Fix lo hi w w') : RowsOwn w' lo hi vs xss :=
  ⟨h.1, fun j hj => ⟨ownsRow_fix (h.2.1 j hj).1 (h.2.1 j hj).2 hf, (h.2.1 j hj).2⟩, h.2.2⟩
theorem RowsOwn.more {w : World} {lo hi hi' : Nat} {vs : List Value} {xss : List (List Int)} (h : RowsOwn w lo hi vs xss) (hh : hi ≤ hi') : RowsOwn w lo hi' vs xss :=
  ⟨h.1, fun j hj => ⟨(h.2.1 j hj).1, fun k hk => Nat.lt_of_lt_of_le ((h.2.1 j hj).2 k hk) hh⟩, h.2.2⟩
theorem RowsOwn.mono {w : World} {lo lo' hi : Nat} {vs : List Value} {xss : List (List Int)} (h : RowsOwn w lo hi vs xss) (hh : lo' ≤ lo) : RowsOwn w lo' hi vs xss :=
  ⟨h.1, fun j hj => ⟨(h.2.1 j hj).1.mono hh, (h.2.1 j hj).2⟩, h.2.2⟩
/-- Two of them, the one behind the other. -/
theorem RowsOwn.app {w : World} {lo mid hi : Nat} {vs us : List Value} {xss yss : List (List Int)} (h : RowsOwn w lo mid vs xss) (k : RowsOwn w mid hi us yss) (hh : lo ≤ mid ∧ mid ≤ hi) : RowsOwn w lo hi (vs ++ us) (xss ++ yss) := by
  have hl := h.1
  have kl := k.1
  have gl : ∀ {j}, j < xss.length → (vs ++ us).getD j undef = vs.getD j undef ∧ (xss ++ yss).getD j [] = xss.getD j [] := fun {j} hj => ⟨getD_append_left _ _ _ (by omega), getD_append_left' _ _ _ hj⟩
  have gr : ∀ {j}, xss.length ≤ j → (vs ++ us).getD j undef = us.getD (j - xss.length) undef ∧ (xss ++ yss).getD j [] = yss.getD (j - xss.length) [] := fun {j} hj => by
    constructor
    · rw [List.getD_eq_getElem?_getD, List.getElem?_append_right (by omega), hl, ← List.getD_eq_getElem?_getD]
    · rw [List.getD_eq_getElem?_getD, List.getElem?_append_right hj, ← List.getD_eq_getElem?_getD]
  refine ⟨by simp [hl, kl], fun j hj => ?_, fun j hj i hij => ?_⟩
  · rw [List.length_append] at hj
    by_cases e : j < xss.length
    · rw [(gl e).1, (gl e).2]
      exact ⟨(h.2.1 j e).1, fun q hq => Nat.lt_of_lt_of_le ((h.2.1 j e).2 q hq) hh.2⟩
    · rw [(gr (Nat.not_lt.1 e)).1, (gr (Nat.not_lt.1 e)).2]
      have := k.2.1 (j - xss.length) (by omega)
      exact ⟨this.1.mono hh.1, this.2⟩
  · rw [List.length_append] at hj
    by_cases e : j < xss.length
    · rw [(gl e).1, (gl (j := i) (by omega)).1]
      exact h.2.2 j e i hij
    · rw [(gr (Nat.not_lt.1 e)).1]
      by_cases e' : i < xss.length
      · rw [(gl e').1]
        exact ne_of (h.2.1 i e').2 (fun q hq => ((k.2.1 (j - xss.length) (by omega)).1.lt q hq).1)
      · rw [(gr (Nat.not_lt.1 e')).1]
        exact k.2.2 _ (by omega) _ (by omega)
theorem RowsOwn.one {w : World} {lo hi : Nat} {u : Value} {xs : List Int} (h : Own w lo u xs) (hh : ∀ k, u.ownBlock = some k → k < hi) : RowsOwn w lo hi [u] [xs] :=
  ⟨rfl, fun j hj => by
    obtain rfl : j = 0 := by simpa using hj
    exact ⟨h, hh⟩, fun j hj i hij => by simp at hj; omega⟩

/-- A row of numbers over a write into a row of lists. -/
theorem own_over {w w' : World} {lo lo' n : Nat} {x u : Value} {ys : List Int} {vs : List Value} (hx : Own w lo x ys) (hv : w.ownsRow lo' 48 1 u n vs) (hg : w.grownBy w' u.ownBlock) : Own w' lo x ys := by
  refine hx.grown hg ?_
  rcases hv.2 with ⟨rfl, _⟩ | ⟨g, cap, cur, rfl, _, hh, _⟩
  · cases hb : x.ownBlock with
    | none => exact .inl rfl
    | some k => exact .inr (by simp [Value.ownBlock])
  · rcases hx.2 with ⟨rfl, _⟩ | ⟨g', cap', cur', rfl, _, hh', _⟩
    · exact .inl rfl
    · refine .inr fun e => ?_
      have : g' = g := by simpa [Value.ownBlock] using e
      subst this
      rw [hh] at hh'
      injection hh' with hh'
      injection hh' with _ ht
      exact absurd ht (by decide)
theorem RowsOwn.map {w w' : World} {lo hi : Nat} {vs : List Value} {xss : List (List Int)} (h : RowsOwn w lo hi vs xss) (hm : ∀ x ys, Own w lo x ys → (∀ k, x.ownBlock = some k → k < hi) → Own w' lo x ys) : RowsOwn w' lo hi vs xss :=
  ⟨h.1, fun j hj => ⟨hm _ _ (h.2.1 j hj).1 (h.2.1 j hj).2, (h.2.1 j hj).2⟩, h.2.2⟩

def longL (xs : List Int) (M i : Nat) : List (List Int) := (List.range i).map fun j => xs ++ [((M - j : Nat) : Int)]
theorem longL_succ (xs : List Int) (M i : Nat) : longL xs M (i + 1) = longL xs M i ++ [xs ++ [((M - i : Nat) : Int)]] := by simp [longL, List.range_succ]
theorem longL_len (xs : List Int) (M i : Nat) : (longL xs M i).length = i := by simp [longL]
def mostI (xs : List Int) (N : Int) : Int := if xs.length = 0 then N - sumI xs else min (N - sumI xs) (gi xs (xs.length - 1))

def LongerPost (w : World) (xs : List Int) (M : Nat) : Ending → World → Prop := fun e w' =>
  ∃ v vs, e = .returned v ∧ w'.ownsRow w.heap.size 48 1 v M vs ∧ RowsOwn w' w.heap.size w'.heap.size vs (longL xs M M) ∧ Below w.heap.size w w'

/-- What the row is after one number more. -/
theorem long_row {wr w2 w3 : World} {v2 v3 u : Value} {xs : List Int} {np x : Nat} {o : Obj} {lo i : Nat} {vs : List Value} (hl : xs.length = np) (ho : Own w2 wr.heap.size v2 xs)
    (hw : w3.ownsRow wr.heap.size 3 1 v3 (xs.length + 1) (ints xs ++ [.int .i64 x])) (hg : (w2.alloc o).grownBy w3 v2.ownBlock) (hb : Below wr.heap.size wr w2) (hu : wr.ownsRow lo 48 1 u i vs) :
    ∃ A3 c3, v3 = .slice A3 (np + 1) c3 ∧ Hid (Own w3 wr.heap.size (.slice A3 (np + 1) c3) (xs ++ [(x : Int)])) ∧ Hid (Below wr.heap.size wr w3) ∧ Hid (w3.ownsRow lo 48 1 u i vs) := by
  have h3 : Own w3 wr.heap.size v3 (xs ++ [(x : Int)]) := by
    unfold Own
    rw [List.length_append]
    simpa [ints] using hw
  obtain ⟨A3, c3, rfl, -, -⟩ := h3.form' (n := np + 1) (by rw [List.length_append, hl]; rfl)
  have hb3 : Below wr.heap.size wr w3 := (hb.alloc hb.size o).grown hg (by rw [World.size_alloc]; have := hb.size; omega) (fun k hk => (ho.lt k hk).1)
  exact ⟨A3, c3, rfl, h3, hb3, ownsRow_fix hu (fun k hk => (hu.lt k hk).2) (Fix.below hb3 (Nat.le_refl _))⟩

set_option maxRecDepth 20000 in
set_option maxHeartbeats 3200000 in
theorem longer_any (ad : Addr) (np c : Nat) (xs : List Int) (N : Nat) (w : World) (h : Rd w (some ad) np xs) (hp : LoP xs) (hN : N ≤ 6) {M : Nat} (hM : mostI xs N = M) :
    Calls Try.prog 73 #[.slice (some ad) np c, .int .i64 N] w (LongerPost w xs M) := by
  obtain ⟨i1, hinf1, hy0, hy1, hy2⟩ := info_parts info_partition
  obtain ⟨i0, hinf, hz0, hz1, hz2⟩ := info_parts info_int
  have hnn := hp.nn
  have HNP : Hid (np ≤ 6) := by have := hp.len; rw [h.1] at this; exact this
  have HLX := Lib.hid h.1
  have hm6 : M ≤ 6 := by
    have e := hM
    unfold mostI at e
    split at e <;> omega
  have HP := Lib.hid hp; have HM := Lib.hid hM; have HR := Lib.hid h; clear h hp hM
  by_cases hz : np = 0
  · subst hz
    have hd : decide ((0 : Int) < 0) = false := by decide
    have hMe : (N : Int) - sumI xs = M := by have := HM.out; rwa [mostI, if_pos HLX.out] at this
    have hsb : IntKind.i64.wrap ((N : Int) - sumI xs) = (M : Int) := by rw [IntWalk.i64_in _ (by omega)]; exact hMe
    go_enter Try.func73, Try.ntmps73
    go_wp2_with fail
    refine (lsum_any (some ad) 0 c xs w HR.out HP.out).mono ?_
    rintro e w1 ⟨rfl, rfl⟩
    go_wp2_with fail
    clear hd hsb hMe
    go_loopw [6, 7] (fun u p wr => ∃ (i x : Nat) (vs : List Value), i ≤ M ∧ x = M - i ∧ p = .int .i64 x ∧ Hid (wr.ownsRow w1.heap.size 48 1 u i vs) ∧ Hid (RowsOwn wr w1.heap.size wr.heap.size vs (longL xs M i)) ∧ Hid (Below w1.heap.size w1 wr)) (fun _ p _ => (intOf p).toNat)
    case atStart => exact ⟨0, M, [], Nat.zero_le _, rfl, rfl, World.ownsRow_nil w1 _ _ _, RowsOwn.nil _ _ _, Below.refl _ _⟩
    case round =>
      obtain ⟨i, x, vs, hi, hx, rfl, ho, hro, hb⟩ := hrel
      have hbz := hb.out.size
      by_cases hlt : 1 ≤ x
      · have hd1 : decide (1 ≤ x) = true := by simpa using hlt
        have hd0 : decide (0 < x) = true := by simp; omega
        have HRW := Lib.hid (HR.out.below hb.out)
        have hx1 : IntKind.i64.wrap ((x : Int) - 1) = ((x - 1 : Nat) : Int) := by rw [IntWalk.i64_in _ (by omega)]; omega
        have HX := Lib.hid hx; clear hx
        go_wp2_with (first
          | (have hchk := HO3.out; clear hchk; at_builtin; refine wpList_append_own_at _ rfl (.tmp 28) (.tmp 34) 54 rfl w1.heap.size 48 i1 (.slice none 0 0) 1 24 Try.underlying54 hinf1 hy0 hy1 hy2 rfl (by decide) _ _ _ rfl (World.ownsRow.alloc HU3.out _) ⟨w3.heap.size, 0, none⟩ 1 1 [.slice A3 (0 + 1) c3] rfl rfl (cell_one_new _ _ _) (by intro u hu; simp at hu; subst hu; rfl) (by unfold maxLen; omega) (by omega) (by rw [World.size_alloc]; have := HB3.out.size; omega) ?_; intro v4 w4 hown4 hgrow4 hnil4 hblk4; have HO4 := Lib.hid hown4; have HG4 := Lib.hid hgrow4; clear hown4 hgrow4 hnil4 hblk4)
          | (have hchk := HO2.out; clear hchk; at_builtin; refine wpList_append_own _ rfl (.tmp 30) (.tmp 32) 48 rfl wr.heap.size 3 i0 (.int .i64 0) 1 8 Try.underlying48 hinf hz0 hz1 hz2 rfl (by decide) _ _ _ rfl (World.ownsRow.alloc HO2.out _) ⟨w2.heap.size, 0, none⟩ 1 1 [.int .i64 x] rfl rfl (cell_one_new _ _ _) (by intro u hu; simp at hu; subst hu; rfl) (by have := HNP.out; have := HLX.out; unfold maxLen; omega) (by have := HNP.out; have := HLX.out; omega) (by rw [World.size_alloc]; have := HB2.out.size; omega) ?_; intro v3 w3 hown3 hgrow3 _; obtain ⟨A3, c3, rfl, HO3, HB3, HU3⟩ := long_row HLX.out HO2.out hown3 hgrow3 HB2.out ho.out; clear hown3 hgrow3)
          | (go_at_call 92; refine (clone_part ad 0 c xs wr HRW.out (by have := HNP.out; omega)).mono ?_; rintro e w2 ⟨v2, rfl, o2, b2⟩; have HO2 := Lib.hid o2; have HB2 := Lib.hid b2; clear o2 b2))
        go_roundw
        case rel =>
          have hb3 := HB3.out
          have hs3 := hb3.size
          have hs4 := HG4.out.size
          rw [World.size_alloc] at hs4
          have hlt3 := HO3.out.lt
          have hx' := HX.out
          refine ⟨i + 1, x - 1, vs ++ [Value.slice A3 (0 + 1) c3], by omega, by omega, by first | rfl | (congr 1; omega), HO4, ?_, ?_⟩
          · have hb4 : Below wr.heap.size wr (w3.alloc (.cells #[.slice A3 (0 + 1) c3] 48)) := hb3.alloc hs3 _
            have h1 := RowsOwn.app ((hro.out.fix (Fix.below hb4 (Nat.le_refl _))).map (fun y ys hy _ => own_over hy (World.ownsRow.alloc HU3.out _) HG4.out))
              (RowsOwn.one (own_over (World.ownsRow.alloc HO3.out _) (World.ownsRow.alloc HU3.out _) HG4.out) (fun k hk => Nat.lt_of_lt_of_le (hlt3 k hk).2 (by omega : w3.heap.size ≤ w4.heap.size))) ⟨hbz, by omega⟩
            rw [Hid, longL_succ, ← hx']
            exact h1
          · exact ((hb.out.trans (hb3.mono hbz)).alloc (Nat.le_trans hbz hs3) _).grown HG4.out (by rw [World.size_alloc]; omega) (fun k hk => (HU3.out.lt k hk).1)
        case measure => simp [intOf]; have := HX.out; omega
      · have hd1 : decide (1 ≤ x) = false := by simp; omega
        have hd2 : decide ((1 : Int) ≤ (x : Int)) = false := by simp; omega
        have hd0 : decide (0 < x) = false := by simp; omega
        obtain rfl : i = M := by omega
        clear hx
        go_wp2_with fail
        go_ret
        exact ⟨_, vs, rfl, ho.out, hro.out, hb.out⟩
  · obtain ⟨q, rfl⟩ : ∃ q, np = q + 1 := ⟨np - 1, by omega⟩
    have hd : decide (0 < q + 1) = true := by simp
    have hq5 : q ≤ 5 := by have := HNP.out; omega
    obtain ⟨-, -, hc⟩ : True ∧ True ∧ w.cell? (ad.add q) = some (.int .i64 (gi xs q)) := by
      obtain ⟨ad', e, hc⟩ := HR.out.at_ (k := q) (by omega)
      obtain rfl : ad = ad' := by simpa using e
      exact ⟨trivial, trivial, hc⟩
    have hsb : IntKind.i64.wrap ((N : Int) - sumI xs) = (N : Int) - sumI xs := IntWalk.i64_in _ (by have := HP.out.2; omega)
    have hq1 : IntKind.i64.wrap (((q + 1 : Nat) : Int) - 1) = (q : Int) := wsub1 rfl (by have := HNP.out; omega)
    have HMIN : Hid (min ((N : Int) - sumI xs) (gi xs q) = (M : Int)) := by have := HM.out; rw [mostI, if_neg (by rw [HLX.out]; omega), HLX.out] at this; exact this
    go_enter Try.func73, Try.ntmps73
    go_wp2_with fail
    refine (lsum_any (some ad) (q + 1) c xs w HR.out HP.out).mono ?_
    rintro e w1 ⟨rfl, rfl⟩
    go_wp2_with fail
    · have e : gi xs q = M := by have := HMIN.out; omega
      rw [e]
      clear e h hd hsb hq1 hc
      go_loopw [6, 7] (fun u p wr => ∃ (i x : Nat) (vs : List Value), i ≤ M ∧ x = M - i ∧ p = .int .i64 x ∧ Hid (wr.ownsRow w1.heap.size 48 1 u i vs) ∧ Hid (RowsOwn wr w1.heap.size wr.heap.size vs (longL xs M i)) ∧ Hid (Below w1.heap.size w1 wr)) (fun _ p _ => (intOf p).toNat)
      case atStart => exact ⟨0, M, [], Nat.zero_le _, rfl, rfl, World.ownsRow_nil w1 _ _ _, RowsOwn.nil _ _ _, Below.refl _ _⟩
      case round =>
        obtain ⟨i, x, vs, hi, hx, rfl, ho, hro, hb⟩ := hrel
        have hbz := hb.out.size
        by_cases hlt : 1 ≤ x
        · have hd1 : decide (1 ≤ x) = true := by simpa using hlt
          have hd0 : decide (0 < x) = true := by simp; omega
          have HRW := Lib.hid (HR.out.below hb.out)
          have hx1 : IntKind.i64.wrap ((x : Int) - 1) = ((x - 1 : Nat) : Int) := by rw [IntWalk.i64_in _ (by omega)]; omega
          have HX := Lib.hid hx; clear hx
          go_wp2_with (first
            | (have hchk := HO3.out; clear hchk; at_builtin; refine wpList_append_own_at _ rfl (.tmp 28) (.tmp 34) 54 rfl w1.heap.size 48 i1 (.slice none 0 0) 1 24 Try.underlying54 hinf1 hy0 hy1 hy2 rfl (by decide) _ _ _ rfl (World.ownsRow.alloc HU3.out _) ⟨w3.heap.size, 0, none⟩ 1 1 [.slice A3 (q + 1 + 1) c3] rfl rfl (cell_one_new _ _ _) (by intro u hu; simp at hu; subst hu; rfl) (by unfold maxLen; omega) (by omega) (by rw [World.size_alloc]; have := HB3.out.size; omega) ?_; intro v4 w4 hown4 hgrow4 hnil4 hblk4; have HO4 := Lib.hid hown4; have HG4 := Lib.hid hgrow4; clear hown4 hgrow4 hnil4 hblk4)
            | (have hchk := HO2.out; clear hchk; at_builtin; refine wpList_append_own _ rfl (.tmp 30) (.tmp 32) 48 rfl wr.heap.size 3 i0 (.int .i64 0) 1 8 Try.underlying48 hinf hz0 hz1 hz2 rfl (by decide) _ _ _ rfl (World.ownsRow.alloc HO2.out _) ⟨w2.heap.size, 0, none⟩ 1 1 [.int .i64 x] rfl rfl (cell_one_new _ _ _) (by intro u hu; simp at hu; subst hu; rfl) (by have := HNP.out; have := HLX.out; unfold maxLen; omega) (by have := HNP.out; have := HLX.out; omega) (by rw [World.size_alloc]; have := HB2.out.size; omega) ?_; intro v3 w3 hown3 hgrow3 _; obtain ⟨A3, c3, rfl, HO3, HB3, HU3⟩ := long_row HLX.out HO2.out hown3 hgrow3 HB2.out ho.out; clear hown3 hgrow3)
            | (go_at_call 92; refine (clone_part ad (q + 1) c xs wr HRW.out (by have := HNP.out; omega)).mono ?_; rintro e w2 ⟨v2, rfl, o2, b2⟩; have HO2 := Lib.hid o2; have HB2 := Lib.hid b2; clear o2 b2))
          go_roundw
          case rel =>
            have hb3 := HB3.out
            have hs3 := hb3.size
            have hs4 := HG4.out.size
            rw [World.size_alloc] at hs4
            have hlt3 := HO3.out.lt
            have hx' := HX.out
            refine ⟨i + 1, x - 1, vs ++ [Value.slice A3 (q + 1 + 1) c3], by omega, by omega, by first | rfl | (congr 1; omega), HO4, ?_, ?_⟩
            · have hb4 : Below wr.heap.size wr (w3.alloc (.cells #[.slice A3 (q + 1 + 1) c3] 48)) := hb3.alloc hs3 _
              have h1 := RowsOwn.app ((hro.out.fix (Fix.below hb4 (Nat.le_refl _))).map (fun y ys hy _ => own_over hy (World.ownsRow.alloc HU3.out _) HG4.out))
                (RowsOwn.one (own_over (World.ownsRow.alloc HO3.out _) (World.ownsRow.alloc HU3.out _) HG4.out) (fun k hk => Nat.lt_of_lt_of_le (hlt3 k hk).2 (by omega : w3.heap.size ≤ w4.heap.size))) ⟨hbz, by omega⟩
              rw [Hid, longL_succ, ← hx']
              exact h1
            · exact ((hb.out.trans (hb3.mono hbz)).alloc (Nat.le_trans hbz hs3) _).grown HG4.out (by rw [World.size_alloc]; omega) (fun k hk => (HU3.out.lt k hk).1)
          case measure => simp [intOf]; have := HX.out; omega
        · have hd1 : decide (1 ≤ x) = false := by simp; omega
          have hd2 : decide ((1 : Int) ≤ (x : Int)) = false := by simp; omega
          have hd0 : decide (0 < x) = false := by simp; omega
          obtain rfl : i = M := by omega
          clear hx
          go_wp2_with fail
          go_ret
          exact ⟨_, vs, rfl, ho.out, hro.out, hb.out⟩
    · have e : (N : Int) - sumI xs = M := by have := HMIN.out; omega
      rw [e]
      clear e h hd hsb hq1 hc
      go_loopw [6, 7] (fun u p wr => ∃ (i x : Nat) (vs : List Value), i ≤ M ∧ x = M - i ∧ p = .int .i64 x ∧ Hid (wr.ownsRow w1.heap.size 48 1 u i vs) ∧ Hid (RowsOwn wr w1.heap.size wr.heap.size vs (longL xs M i)) ∧ Hid (Below w1.heap.size w1 wr)) (fun _ p _ => (intOf p).toNat)
      case atStart => exact ⟨0, M, [], Nat.zero_le _, rfl, rfl, World.ownsRow_nil w1 _ _ _, RowsOwn.nil _ _ _, Below.refl _ _⟩
      case round =>
        obtain ⟨i, x, vs, hi, hx, rfl, ho, hro, hb⟩ := hrel
        have hbz := hb.out.size
        by_cases hlt : 1 ≤ x
        · have hd1 : decide (1 ≤ x) = true := by simpa using hlt
          have hd0 : decide (0 < x) = true := by simp; omega
          have HRW := Lib.hid (HR.out.below hb.out)
          have hx1 : IntKind.i64.wrap ((x : Int) - 1) = ((x - 1 : Nat) : Int) := by rw [IntWalk.i64_in _ (by omega)]; omega
          have HX := Lib.hid hx; clear hx
          go_wp2_with (first
            | (have hchk := HO3.out; clear hchk; at_builtin; refine wpList_append_own_at _ rfl (.tmp 28) (.tmp 34) 54 rfl w1.heap.size 48 i1 (.slice none 0 0) 1 24 Try.underlying54 hinf1 hy0 hy1 hy2 rfl (by decide) _ _ _ rfl (World.ownsRow.alloc HU3.out _) ⟨w3.heap.size, 0, none⟩ 1 1 [.slice A3 (q + 1 + 1) c3] rfl rfl (cell_one_new _ _ _) (by intro u hu; simp at hu; subst hu; rfl) (by unfold maxLen; omega) (by omega) (by rw [World.size_alloc]; have := HB3.out.size; omega) ?_; intro v4 w4 hown4 hgrow4 hnil4 hblk4; have HO4 := Lib.hid hown4; have HG4 := Lib.hid hgrow4; clear hown4 hgrow4 hnil4 hblk4)
            | (have hchk := HO2.out; clear hchk; at_builtin; refine wpList_append_own _ rfl (.tmp 30) (.tmp 32) 48 rfl wr.heap.size 3 i0 (.int .i64 0) 1 8 Try.underlying48 hinf hz0 hz1 hz2 rfl (by decide) _ _ _ rfl (World.ownsRow.alloc HO2.out _) ⟨w2.heap.size, 0, none⟩ 1 1 [.int .i64 x] rfl rfl (cell_one_new _ _ _) (by intro u hu; simp at hu; subst hu; rfl) (by have := HNP.out; have := HLX.out; unfold maxLen; omega) (by have := HNP.out; have := HLX.out; omega) (by rw [World.size_alloc]; have := HB2.out.size; omega) ?_; intro v3 w3 hown3 hgrow3 _; obtain ⟨A3, c3, rfl, HO3, HB3, HU3⟩ := long_row HLX.out HO2.out hown3 hgrow3 HB2.out ho.out; clear hown3 hgrow3)
            | (go_at_call 92; refine (clone_part ad (q + 1) c xs wr HRW.out (by have := HNP.out; omega)).mono ?_; rintro e w2 ⟨v2, rfl, o2, b2⟩; have HO2 := Lib.hid o2; have HB2 := Lib.hid b2; clear o2 b2))
          go_roundw
          case rel =>
            have hb3 := HB3.out
            have hs3 := hb3.size
            have hs4 := HG4.out.size
            rw [World.size_alloc] at hs4
            have hlt3 := HO3.out.lt
            have hx' := HX.out
            refine ⟨i + 1, x - 1, vs ++ [Value.slice A3 (q + 1 + 1) c3], by omega, by omega, by first | rfl | (congr 1; omega), HO4, ?_, ?_⟩
            · have hb4 : Below wr.heap.size wr (w3.alloc (.cells #[.slice A3 (q + 1 + 1) c3] 48)) := hb3.alloc hs3 _
              have h1 := RowsOwn.app ((hro.out.fix (Fix.below hb4 (Nat.le_refl _))).map (fun y ys hy _ => own_over hy (World.ownsRow.alloc HU3.out _) HG4.out))
                (RowsOwn.one (own_over (World.ownsRow.alloc HO3.out _) (World.ownsRow.alloc HU3.out _) HG4.out) (fun k hk => Nat.lt_of_lt_of_le (hlt3 k hk).2 (by omega : w3.heap.size ≤ w4.heap.size))) ⟨hbz, by omega⟩
              rw [Hid, longL_succ, ← hx']
              exact h1
            · exact ((hb.out.trans (hb3.mono hbz)).alloc (Nat.le_trans hbz hs3) _).grown HG4.out (by rw [World.size_alloc]; omega) (fun k hk => (HU3.out.lt k hk).1)
          case measure => simp [intOf]; have := HX.out; omega
        · have hd1 : decide (1 ≤ x) = false := by simp; omega
          have hd2 : decide ((1 : Int) ≤ (x : Int)) = false := by simp; omega
          have hd0 : decide (0 < x) = false := by simp; omega
          obtain rfl : i = M := by omega
          clear hx
          go_wp2_with fail
          go_ret
          exact ⟨_, vs, rfl, ho.out, hro.out, hb.out⟩

end Go.Proofs.Ytkbdbkoeahihiaa

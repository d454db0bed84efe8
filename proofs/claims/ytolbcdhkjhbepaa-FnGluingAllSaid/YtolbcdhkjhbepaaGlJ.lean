/-
  The program's count and list of gluings: what the visitors keep; both by contract.
-/
import Derived.Test.YtolbcdhkjhbepaaGlS
import Derived.Test.YtolbcdhkjhbepaaGlI
import Derived.Test.YtolbcdhkjhbepaaKitSS
import Derived.Test.YtolbcdhkjhbepaaGluG
import Derived.Deep.RegionHeld3
namespace Go.Proofs.Ytolbcdhkjhbepaa
open Go.RowKit
set_option linter.unusedVariables false
attribute [local go_sem] Oper.semAt_some

theorem OwnSS.far {w w' : World} {lo hi b : Nat} {v : Value} {xss : List (List Int)} (h : OwnSS w lo hi v xss) (hg : w.grownBy w' (some b)) (hb : b < lo) : OwnSS w' lo hi v xss := by
  obtain ⟨vs, hl, ho, hr, hd⟩ := h
  have key : ∀ u : Value, (∀ k, u.ownBlock = some k → lo ≤ k ∧ k < w.heap.size) → u.ownBlock = none ∨ u.ownBlock ≠ some b := fun u hu => by
    cases hv : u.ownBlock with
    | none => exact .inl rfl
    | some k => exact .inr (by intro e; injection e with e; have := (hu k hv).1; omega)
  exact ⟨vs, hl, ho.kept hg (key v (World.ownsRow.lt ho)), fun j hj => ⟨(hr j hj).1.grown hg (key _ (Own.lt (hr j hj).1)), (hr j hj).2⟩, hd⟩

/-- How many of some gluings have a genus, as it is counted. -/
def cntW (g : Int) (acc : List (List Int)) : Int := acc.foldl (fun s p => if ggen p = g then wrap64 (s + 1) else s) 0
theorem cntW_snoc (g : Int) (acc : List (List Int)) (p : List Int) : cntW g (acc ++ [p]) = if ggen p = g then wrap64 (cntW g acc + 1) else cntW g acc := by
  simp [cntW, List.foldl_append]

/-- What the counting visitor keeps: its two cells; it has come to so many gluings. -/
structure Keep2 (g : Int) (gb cb B : Nat) (W0 : World) (w : World) (acc : List (List Int)) : Prop where
  bg : w.heap[gb]? = some (.cells #[.int .i64 g] 3 (0, 0))
  bc : w.heap[cb]? = some (.cells #[.int .i64 (cntW g acc)] 3 (0, 0))
  below : Below B W0 w
  size : B ≤ w.heap.size

theorem Keep2.set {g : Int} {gb cb B : Nat} {W0 : World} {pb : Nat} {w : World} {acc : List (List Int)} (h : Keep2 g gb cb B W0 w acc) (hg : gb < pb) (hc : cb < pb) (hB : B ≤ pb) (k : Nat) (u : Value) : Keep2 g gb cb B W0 (w.setCell ⟨pb, k, none⟩ u) acc := by
  refine ⟨(Below.heap_setCell w ⟨pb, k, none⟩ u gb (by show gb ≠ pb; omega)).trans h.bg, (Below.heap_setCell w ⟨pb, k, none⟩ u cb (by show cb ≠ pb; omega)).trans h.bc, h.below.setCell (p := ⟨pb, k, none⟩) hB u, ?_⟩
  have := h.size
  simpa [World.setCell] using this
theorem Keep2.go {g : Int} {gb cb B : Nat} {W0 w w' : World} {acc : List (List Int)} (h : Keep2 g gb cb B W0 w acc) (b : Below w.heap.size w w') : Keep2 g gb cb B W0 w' acc :=
  ⟨(b.block gb (Array.getElem?_eq_some_iff.1 h.bg).1).trans h.bg, (b.block cb (Array.getElem?_eq_some_iff.1 h.bc).1).trans h.bc, h.below.trans (b.mono h.size), Nat.le_trans h.size b.size⟩

set_option maxRecDepth 20000 in
set_option maxHeartbeats 1600000 in
theorem vis2 (g : Int) (gb cb B : Nat) (W0 : World) (pb : Nat) (hBg : B ≤ gb) (hgc : gb < cb) (hcp : cb < pb) :
    Vis2 gb cb B pb (fun w acc => Keep2 g gb cb B W0 w acc) := by
  refine ⟨fun w acc xs n c hI ho hxl hG => ?_, fun w acc k u hI => hI.set (by omega) hcp (by omega) k u⟩
  obtain ⟨r, hr⟩ : ∃ r, ggen xs = r := ⟨_, rfl⟩
  have HR := Lib.hid hr; clear hr
  have HI := Lib.hid hI; have HO := Lib.hid ho; have Hx := Lib.hid hxl; have HG := Lib.hid hG
  have c0 := cell_of_block hI.bg
  clear hI ho hxl hG
  go_enter Try.func40, Try.ntmps40
  go_wp2_with fail
  go_region_held3 (fun w' => w'.cell? ⟨gb, 0, none⟩ = some (.int .i64 g)) (first | go_keep | exact cell_of_block (HI.out.go BL.out).bg) (first
    | (go_at_call 41; refine (genusG_any _ (some ⟨pb, 0, none⟩) c n xs ((HO.out.rd Hx.out).drewN _) HG.out HR.out).mono ?_; rintro e w1 ⟨rfl, bl⟩; have BL := Lib.hid (Below.of_drewN bl); clear bl))
  all_goals
    have HI1 := Lib.hid (HI.out.go BL.out)
    have HO1 := Lib.hid (HO.out.below BL.out)
    have c1 := cell_of_block HI1.out.bc
    have f1 : w1.frozen? ⟨cb, 0, none⟩ = false := frozen_of_row w1 cb 0 _ _ HI1.out.bc
    by_cases he : r = g
    · have hq : (r == g) = true := by simp [he]
      obtain ⟨cv, hcv⟩ : ∃ cv, cntW g acc = cv := ⟨_, rfl⟩
      have HCV := Lib.hid hcv
      rw [hcv] at c1
      have HE := Lib.hid he
      clear hcv he
      go_wp2_with fail
      refine bodyPost_end (v := .tuple #[]) (by simp [results, Try.results40, go_sem]) rfl ⟨rfl, ?_, ?_⟩
      · have hne : cb ≠ gb := by omega
        have hbc := set_box (u' := .int .i64 (wrap64 (cv + 1))) HI1.out.bc
        refine ⟨(Below.heap_setCell w1 ⟨cb, 0, none⟩ _ gb (by show gb ≠ cb; omega)).trans HI1.out.bg, ?_, HI1.out.below.setCell (p := ⟨cb, 0, none⟩) (by show B ≤ cb; omega) _, by have := HI1.out.size; simpa [World.setCell] using this⟩
        rw [cntW_snoc, if_pos (by rw [HR.out, HE.out]), HCV.out]
        exact hbc
      · exact HO1.out.grown (grown_set _ _ _ _) (.inr (fun e => by simp [Value.ownBlock] at e; omega))
    · have hq : (r == g) = false := by simp [he]
      have HE := Lib.hid he
      clear he
      go_wp2_with fail
      refine bodyPost_end (v := .tuple #[]) (by simp [results, Try.results40, go_sem]) rfl ⟨rfl, ?_, HO1.out⟩
      refine ⟨HI1.out.bg, ?_, HI1.out.below, HI1.out.size⟩
      rw [cntW_snoc, if_neg (by rw [HR.out]; exact HE.out)]
      exact HI1.out.bc

theorem lit_own (w : World) (x : Int) : Own (w.alloc (.cells #[.int .i64 x] 3)) w.heap.size (.slice (some ⟨w.heap.size, 0, none⟩) 1 1) [x] :=
  World.ownsRow_lit w #[.int .i64 x] 1 (Nat.le_refl _) (by unfold maxLen; omega) rfl

set_option maxHeartbeats 1600000 in
theorem each2 (n : Nat) (h1 : 1 ≤ n) (h5 : n ≤ 5) (g : Int) (gb cb B : Nat) (W0 w : World) (hBg : B ≤ gb) (hgc : gb < cb) (hcw : cb < w.heap.size) (hI : Keep2 g gb cb B W0 w []) :
    Calls Try.prog 39 #[.int .i64 n, .func (.func 40) #[] #[.pointer (some ⟨gb, 0, none⟩), .pointer (some ⟨cb, 0, none⟩)]] w fun e w' => e = .returned (.tuple #[]) ∧ Keep2 g gb cb B W0 w' (allG n) := by
  have HI := Lib.hid hI; clear hI
  have HL := Lib.hid (lit_own w (-1))
  have HBL : Hid (Below w.heap.size w (w.alloc (.cells #[.int .i64 (-1)] 3))) := (Below.refl _ _).alloc (Nat.le_refl _) _
  go_enter Try.func39, Try.ntmps39
  go_wp2_with fail
  refine (repeat_glu (some ⟨w.heap.size, 0, none⟩) 1 (2 * n) (-1) _ (HL.out.rd rfl) (by omega) (by omega)).mono ?_
  rintro e w2 ⟨v, rfl, o, b⟩
  obtain ⟨A, c, rfl, -, -⟩ := o.form' (show (List.replicate (2 * n) (-1 : Int)).length = 2 * n by simp)
  obtain ⟨pb, rfl, hpb, -, -⟩ := o.cellAt (k := 0) (show (List.replicate (2 * n) (-1 : Int)).length = 2 * n by simp) (by omega)
  rw [World.size_alloc] at hpb
  have HI2 := Lib.hid (HI.out.go (HBL.out.trans (b.mono (by simp))))
  have hf := noneL_free (2 * n)
  have HRA := Lib.hid (restAt2 (vis2 g gb cb B W0 pb hBg hgc (by omega)) n (noneL (2 * n)) (noneL_pg _) (by omega) w2 [] (2 * n) c HI2.out (o.mono (by simp; omega)) (noneL_len _) (noneL_pg _) (by omega) (by omega))
  clear o b hf
  go_wp2_with fail
  refine HRA.out.mono ?_
  rintro e w3 ⟨rfl, hi3, -⟩
  have HI3 := Lib.hid hi3; clear hi3
  go_wp2_with fail
  exact bodyPost_end (v := .tuple #[]) (by simp [results, Try.results39, go_sem]) rfl ⟨rfl, HI3.out⟩

theorem keep2_start (w : World) (g : Int) : Keep2 g w.heap.size (w.heap.size + 1) w.heap.size w ((w.alloc (.cells #[.int .i64 g] 3)).alloc (.cells #[.int .i64 0] 3)) [] := by
  obtain ⟨W1, h1⟩ : ∃ W, w.alloc (.cells #[.int .i64 g] 3) = W := ⟨_, rfl⟩
  have s1 : W1.heap.size = w.heap.size + 1 := by rw [← h1]; simp
  have k1 : W1.heap[w.heap.size]? = some (.cells #[.int .i64 g] 3 (0, 0)) := by rw [← h1]; exact heap_alloc_new w _
  have b1 : Below w.heap.size w W1 := by rw [← h1]; exact (Below.refl _ _).alloc (Nat.le_refl _) _
  rw [h1, ← s1]
  exact ⟨box_alloc k1, heap_alloc_new W1 _, b1.alloc (by omega) _, by simp; omega⟩

def gcountF (n g : Int) : Int := if 1 ≤ n ∧ n ≤ 4 ∧ 0 ≤ g then cntW g (allG n.toNat) else -1

theorem retI' {a b : Int} (h : a = b) : Ending.returned (.int .i64 a) = .returned (.int .i64 b) := by rw [h]

set_option maxHeartbeats 1600000 in
theorem impl_gcount (w : World) (n g : Int) (hw : (Lit.int .i64 n).wf = true) (hw' : (Lit.int .i64 g).wf = true) {r : Int} (hr : gcountF n g = r) :
    Calls Try.prog 16 #[.int .i64 n, .int .i64 g] w fun x w' => x = .returned (.int .i64 r) ∧ Below w.heap.size w w' := by
  have HR := Lib.hid hr; clear hr
  by_cases h : 1 ≤ n ∧ n ≤ 4 ∧ 0 ≤ g
  · obtain ⟨h1, h2, h3⟩ := h
    have HV : Hid (cntW g (allG n.toNat) = r) := by have := HR.out; rwa [gcountF, if_pos ⟨h1, h2, h3⟩] at this
    obtain ⟨n, rfl⟩ : ∃ k : Nat, n = k := ⟨n.toNat, by omega⟩
    rw [Int.toNat_natCast] at HV
    have d1 : decide ((n : Int) < 1) = false := by simp; omega
    have d2 : decide ((4 : Int) < (n : Int)) = false := by simp; omega
    have d3 : decide (g < 0) = false := by simp; omega
    go_enter Try.func16, Try.ntmps16
    go_wp2_with fail
    refine (each2 n (by omega) (by omega) g w.heap.size (w.heap.size + 1) w.heap.size w _ (Nat.le_refl _) (by omega) (by simp) (keep2_start w g)).mono ?_
    rintro e w2 ⟨rfl, hi⟩
    have c1 := cell_of_block hi.bc
    rw [HV.out] at c1
    have HB := Lib.hid hi.below; clear hi
    go_wp2_with fail
    go_ret
    exact ⟨rfl, HB.out⟩
  · have HV : Hid (r = -1) := by have := HR.out; rw [gcountF, if_neg h] at this; exact this.symm
    have hb : Below w.heap.size w (w.alloc (.cells #[.int .i64 g] 3)) := (Below.refl _ _).alloc (Nat.le_refl _) _
    have HB := Lib.hid hb; clear hb
    by_cases d1 : n < 1
    · go_enter Try.func16, Try.ntmps16
      go_wp2_with fail
      go_ret
      exact ⟨retI' HV.out.symm, HB.out⟩
    by_cases d2 : 4 < n
    · go_enter Try.func16, Try.ntmps16
      go_wp2_with fail
      go_ret
      exact ⟨retI' HV.out.symm, HB.out⟩
    have d3 : g < 0 := by omega
    go_enter Try.func16, Try.ntmps16
    go_wp2_with fail
    go_ret
    exact ⟨retI' HV.out.symm, HB.out⟩

end Go.Proofs.Ytolbcdhkjhbepaa

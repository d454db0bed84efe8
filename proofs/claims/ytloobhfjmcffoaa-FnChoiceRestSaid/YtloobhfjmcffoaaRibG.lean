/-
  The subgraph of a choice by the program: parts, sides, rank, nullity, genus.
-/
import Derived.Test.YtloobhfjmcffoaaRibS
namespace Go.Proofs.Ytloobhfjmcffoaa
open Go.RowKit

def qa (x : Int) : Int := IntKind.u64.wrap (bits BinOp.and IntKind.u64 (x / 2) 6148914691236517205 + bits BinOp.and IntKind.u64 x 6148914691236517205)
def qb (x : Int) : Int := IntKind.u64.wrap (bits BinOp.and IntKind.u64 (x / 4) 3689348814741910323 + bits BinOp.and IntKind.u64 x 3689348814741910323)
def qc (x : Int) : Int := bits BinOp.and IntKind.u64 (x / 16 + x) 1085102592571150095
def qd (x : Int) : Int := bits BinOp.and IntKind.i64 x 127
theorem q_in : ∀ b : Nat, b < 64 → (0 ≤ qa b ∧ qa b < 256) ∧ (0 ≤ qb (qa b) ∧ qb (qa b) < 256) ∧ (0 ≤ qc (qb (qa b)) ∧ qc (qb (qa b)) < 16) ∧ qd (qc (qb (qa b))) = ((bL b).length : Nat) := by decide +kernel
theorem bL_few : ∀ b : Nat, b < 64 → (bL b).length ≤ 6 := by decide +kernel

theorem ones64_any (b l : Nat) (w : World) (hb : b < 64) (hl : (bL b).length = l) :
    Calls Try.prog 97 #[.int .u64 b] w fun e w' => e = .returned (.int .i64 l) ∧ w = w' := by
  obtain ⟨⟨a1, a2⟩, ⟨b1, b2⟩, ⟨c1, c2⟩, d⟩ := q_in b hb
  obtain ⟨x1, h1⟩ : ∃ x1, qa b = x1 := ⟨_, rfl⟩
  rw [h1] at a1 a2 b1 b2 c1 c2 d
  obtain ⟨x2, h2⟩ : ∃ x2, qb x1 = x2 := ⟨_, rfl⟩
  rw [h2] at b1 b2 c1 c2 d
  obtain ⟨x3, h3⟩ : ∃ x3, qc x2 = x3 := ⟨_, rfl⟩
  rw [h3] at c1 c2 d
  rw [hl] at d
  clear hl
  unfold qa at h1; unfold qb at h2; unfold qc at h3; unfold qd at d
  have e1 : x3 / 256 = 0 := by omega
  have e2 : x3 / 65536 = 0 := by omega
  have e3 : x3 / 4294967296 = 0 := by omega
  go_enter Try.func97, Try.ntmps97
  go_wp2_with fail
  go_ret
  exact ⟨rfl, rfl⟩
theorem ones_any (b l : Nat) (w : World) (hb : b < 64) (hl : (bL b).length = l) :
    Calls Try.prog 91 #[.int .u64 b] w fun e w' => e = .returned (.int .i64 l) ∧ w = w' := by
  have HL := Lib.hid hl; clear hl
  go_enter Try.func91, Try.ntmps91
  go_wp2_with fail
  refine (ones64_any b l w hb HL.out).mono ?_
  rintro e w1 ⟨rfl, rfl⟩
  go_wp2_with fail
  go_ret
  exact ⟨rfl, rfl⟩
theorem sizeS_any (b l : Nat) (w : World) (hb : b < 64) (hl : (bL b).length = l) :
    Calls Try.prog 76 #[.int .u64 b] w fun e w' => e = .returned (.int .i64 l) ∧ w = w' := by
  have HL := Lib.hid hl; clear hl
  go_enter Try.func76, Try.ntmps76
  go_wp2_with fail
  refine (ones_any b l w hb HL.out).mono ?_
  rintro e w1 ⟨rfl, rfl⟩
  go_wp2_with fail
  go_ret
  exact ⟨rfl, rfl⟩

theorem box2_drewN {w : World} {b n c n' c' : Nat} {A A' : Option Addr} (h : Box2 w b A n c A' n' c') (k : Nat) : Box2 (w.drewN k) b A n c A' n' c' := h
/-- How many of the first k numbers stand at their own places. -/
def fixN (xs : List Int) : Nat → Nat
  | 0 => 0
  | k + 1 => fixN xs k + if gi xs k = (k : Int) then 1 else 0
theorem fixN_le (xs : List Int) : ∀ k, fixN xs k ≤ k
  | 0 => Nat.le_refl _
  | k + 1 => by have := fixN_le xs k; rw [fixN]; split <;> omega
noncomputable def ptsN (t f : List Int) (s : Nat) : Nat := fixN (orbL t (flipS f s)) t.length
def sidN (t f : List Int) (s : Nat) : Nat := (cyclesL (sidL t f s)).length
/-- Parts, sides, rank, nullity, genus, told by the numbers of parts, sides, vertices, chosen edges. -/
def subI (p sd v e : Nat) : List Int := [(p : Int), (sd : Int), (v : Int) - p, (e : Int) - ((v : Int) - p), (2 * (p : Int) - v + e - sd).tdiv 2]
noncomputable def subL (t f : List Int) (s : Nat) : List Int := subI (ptsN t f s) (sidN t f s) (cntV t) (bL s).length
def aggOf (xs : List Int) : Value := .agg ((xs.map (Value.int .i64)).toArray)

/-- Block b holds five values as a struct of type t. -/
def Row5 (w : World) (b : Nat) (t : TypeId) (u0 u1 u2 u3 u4 : Value) : Prop := w.heap[b]? = some (.cells #[u0, u1, u2, u3, u4] t (0, 0))
section
variable {w w' : World} {b : Nat} {t : TypeId} {u0 u1 u2 u3 u4 : Value}
theorem Row5.new (w : World) (t : TypeId) (u0 u1 u2 u3 u4 : Value) : Row5 (w.alloc (.cells #[u0, u1, u2, u3, u4] t)) w.heap.size t u0 u1 u2 u3 u4 := heap_alloc_new w _
theorem Row5.lt (h : Row5 w b t u0 u1 u2 u3 u4) : b < w.heap.size := (Array.getElem?_eq_some_iff.1 h).1
theorem Row5.below (h : Row5 w b t u0 u1 u2 u3 u4) (hb : Below w.heap.size w w') : Row5 w' b t u0 u1 u2 u3 u4 := (hb.block b h.lt).trans h
theorem Row5.cells (h : Row5 w b t u0 u1 u2 u3 u4) : w.cell? ⟨b, 0, none⟩ = some u0 ∧ w.cell? ⟨b, 1, none⟩ = some u1 ∧ w.cell? ⟨b, 2, none⟩ = some u2 ∧ w.cell? ⟨b, 3, none⟩ = some u3 ∧ w.cell? ⟨b, 4, none⟩ = some u4 := by
  refine ⟨?_, ?_, ?_, ?_, ?_⟩ <;> (rw [cell_of_row w b _ _ _ (0, 0) h]; rfl)
theorem Row5.frozen (h : Row5 w b t u0 u1 u2 u3 u4) (j : Nat) : w.frozen? ⟨b, j, none⟩ = false := frozen_of_row w b j _ _ h
theorem Row5.store (h : Row5 w b t u0 u1 u2 u3 u4) (v0 v1 v2 v3 v4 : Value) :
    Row5 (((((w.setCell ⟨b, 0, none⟩ v0).setCell ⟨b, 1, none⟩ v1).setCell ⟨b, 2, none⟩ v2).setCell ⟨b, 3, none⟩ v3).setCell ⟨b, 4, none⟩ v4) b t v0 v1 v2 v3 v4 ∧ w.grownBy (((((w.setCell ⟨b, 0, none⟩ v0).setCell ⟨b, 1, none⟩ v1).setCell ⟨b, 2, none⟩ v2).setCell ⟨b, 3, none⟩ v3).setCell ⟨b, 4, none⟩ v4) (some b) := by
  refine ⟨?_, grownBy_trans (grownBy_trans (grownBy_trans (grownBy_trans (grown_set _ _ _ _) (grown_set _ _ _ _)) (grown_set _ _ _ _)) (grown_set _ _ _ _)) (grown_set _ _ _ _)⟩
  unfold Row5 at h ⊢
  rw [set_row2 (set_row2 (set_row2 (set_row2 (set_row2 h))))]; rfl
end

set_option maxRecDepth 20000 in
set_option maxHeartbeats 3200000 in
theorem subgraph_any (b : Nat) (A A' : Option Addr) (n c c' s p sd v l : Nat) (t f : List Int) (w : World) (hb : Box2 w b A n c A' n c') (h : Rd w A n t) (h' : Rd w A' n f) (hm : IsMap t f) (hs : s < 64)
    (hpn : ptsN t f s = p) (hsd : sidN t f s = sd) (hv : cntV t = v) (hl : (bL s).length = l) :
    Calls Try.prog 49 #[.pointer (some ⟨b, 0, none⟩), .int .u64 s] w fun e w' => e = .returned (aggOf (subI p sd v l)) ∧ Below w.heap.size w w' := by
  have hn12 : n ≤ 12 := by rw [← h'.1]; exact hm.flip.2.1
  have hp12 : p ≤ 12 := by rw [← hpn]; have := fixN_le (orbL t (flipS f s)) t.length; rw [h.1] at this; unfold ptsN; rw [h.1]; omega
  have hsV := sidL_vld hm s
  have hsd12 : sd ≤ 12 := by
    rw [← hsd]; have := cyclesL_len (p := sidL t f s); have := sidL_len t f s; have := hm.flip.2.1; unfold sidN; omega
  have hv12 : v ≤ 12 := by rw [← hv]; have := cyclesL_len (p := t); have := hm.turn.2.1; unfold cntV; omega
  have hl6 : l ≤ 6 := by rw [← hl]; exact bL_few s hs
  have HX := Lib.hid hb; have H := Lib.hid h; have H' := Lib.hid h'; have HM := Lib.hid hm; have HP := Lib.hid hpn; have HSD := Lib.hid hsd; have HVV := Lib.hid hv; have HLL := Lib.hid hl
  have HSV := Lib.hid hsV
  have HFV := Lib.hid (flipS_vld hm.flip hm.paired s)
  have HFL : Hid ((flipS f s).length = n) := by rw [Hid, flipS_len, h'.1]
  clear hb h h' hm hpn hsd hv hl hsV
  have HB0 : Hid (Below w.heap.size w (w.alloc (.cells #[.int .i64 0, .int .i64 0, .int .i64 0, .int .i64 0, .int .i64 0] 64))) := (Below.refl _ _).alloc (Nat.le_refl _) _
  have HR0 := Lib.hid (Row5.new w 64 (.int .i64 0) (.int .i64 0) (.int .i64 0) (.int .i64 0) (.int .i64 0))
  obtain ⟨W0, hW0⟩ : ∃ W0, w.alloc (.cells #[.int .i64 0, .int .i64 0, .int .i64 0, .int .i64 0, .int .i64 0] 64) = W0 := ⟨_, rfl⟩
  rw [hW0] at HB0 HR0
  have HX0 := Lib.hid (HX.out.below HB0.out)
  have c0 := HX0.out.cell0
  have c1 := HX0.out.cell1
  go_enter Try.func49, Try.ntmps49
  go_wp2_with fail
  go_region_held3 (fun w' => w'.cell? ⟨b, 0, none⟩ = some (.slice A n c)) (first | go_keep | exact (HX0.out.below BL.out).cell0) (first
    | (go_at_call 73; refine (flipOf_any b A A' n n c c' s f _ (box2_drewN HX0.out _) ((H'.out.below HB0.out).drewN _) HM.out.flip HM.out.paired hs).mono ?_; rintro e w1 ⟨v1, rfl, o, bl⟩; have HO := Lib.hid o; have BL := Lib.hid (Below.of_drewN bl); clear o bl))
  obtain ⟨A2, c2, rfl, -, -⟩ := HO.out.form' HFL.out
  have HF1 := Lib.hid (HO.out.rd HFL.out)
  have HB1 := Lib.hid (HB0.out.trans (BL.out.mono HB0.out.size)); have HX1 := Lib.hid (HX0.out.below BL.out); have HR1 := Lib.hid (HR0.out.below BL.out)
  clear hW0 c0 c1
  go_wp2_with fail
  have HB1a : Hid (Below w1.heap.size w1 (w1.alloc (.cells #[.slice A2 n c2] 78))) := (Below.refl _ _).alloc (Nat.le_refl _) _
  refine (orbits_any w1.heap.size A A2 n c c2 t (flipS f s) _ (by rw [cell_of_row _ w1.heap.size 0 _ _ (0, 0) (heap_alloc_new w1 _)]; rfl) ((H.out.below HB1.out).alloc _) (HF1.out.alloc _) HM.out.turn HFV.out).mono ?_
  rintro e w2 ⟨v2, rfl, o, bl⟩
  have hb2 : Below w1.heap.size w1 w2 := HB1a.out.trans (bl.mono (by simp))
  obtain ⟨A3, c3, rfl, -, -⟩ := o.form' ((orbL_len t (flipS f s)).trans H.out.1)
  have HOR := Lib.hid (o.rd ((orbL_len t (flipS f s)).trans H.out.1))
  have HB2 := Lib.hid (HB1.out.trans (hb2.mono HB1.out.size)); have HR2 := Lib.hid (HR1.out.below hb2); have HF2 := Lib.hid (HF1.out.below hb2); have HOI : Hid (∀ k, k < n → ∃ x : Nat, gi (orbL t (flipS f s)) k = (x : Int)) := fun k hk => ⟨_, gi_orbL (by rw [H.out.1]; exact hk)⟩
  clear o bl hb2
  go_wp2_with fail
  go_loop [7, 8, 9, 26] (fun pv _ _ iv => ∃ k q : Nat, k ≤ n ∧ iv = .int .i64 k ∧ pv = .int .i64 q ∧ q ≤ k ∧ Hid (q = fixN (orbL t (flipS f s)) k)) (fun _ _ _ iv => n - (intOf iv).toNat)
  case atStart => exact ⟨0, 0, Nat.zero_le _, rfl, rfl, Nat.le_refl _, rfl⟩
  case round =>
    obtain ⟨k, q, hk, rfl, rfl, hqk, hq⟩ := hrel
    by_cases hlt : k < n
    · obtain ⟨ad, rfl, hc⟩ := HOR.out.at_ hlt
      obtain ⟨x, hx⟩ := HOI.out k hlt
      rw [hx] at hc
      have HXX := Lib.hid hx; clear hx
      by_cases he : k = x
      · have he' : ((k : Int) == (x : Int)) = true := by simp [he]
        have HE := Lib.hid he; clear he
        go_wp2_with fail
        go_round
        case rel => exact ⟨k + 1, q + 1, by omega, by go_num, by go_num, by omega, by rw [Hid, fixN, HXX.out, if_pos (by have := HE.out; omega), hq.out]⟩
        case measure => simp [intOf]; omega
      · have he' : ((k : Int) == (x : Int)) = false := by simp; omega
        have HE := Lib.hid he; clear he
        go_wp2_with fail
        go_round
        case rel => exact ⟨k + 1, q, by omega, by go_num, rfl, by omega, by rw [Hid, fixN, HXX.out, if_neg (by have := HE.out; omega), Nat.add_zero]; exact hq.out⟩
        case measure => simp [intOf]; omega
    · have hkn : k = n := by omega
      have hqp : q = p := by have := hq.out; rw [hkn] at this; rw [this, ← HP.out, ptsN, H.out.1]
      subst hqp
      clear hkn hq hqk
      go_wp2_with fail
      refine (then_any A2 A n n c2 c (flipS f s) t w2 HF2.out (H.out.below HB2.out) (by omega) (by omega) (HFV.out.into HFL.out)).mono ?_
      rintro e w3 ⟨v3, rfl, o, bl⟩
      obtain ⟨A4, c4, rfl, -, -⟩ := o.form' ((sidL_len t f s).trans H'.out.1)
      have HS3 := Lib.hid (o.rd ((sidL_len t f s).trans H'.out.1))
      have HB3 := Lib.hid (HB2.out.trans (bl.mono HB2.out.size)); have HR3 := Lib.hid (HR2.out.below bl); clear o bl
      go_wp2_with fail
      refine (count_any w3 A4 c4 n (sidL t f s) HS3.out HSV.out).mono ?_
      rintro e w4 ⟨rfl, bl⟩
      rw [show (cyclesL (sidL t f s)).length = sd from HSD.out]
      have HB4 := Lib.hid (HB3.out.trans (bl.mono HB3.out.size)); have HR4 := Lib.hid (HR3.out.below bl); clear bl
      go_wp2_with fail
      refine (count_any w4 A c n t (H.out.below HB4.out) HM.out.turn).mono ?_
      rintro e w5 ⟨rfl, bl⟩
      rw [show (cyclesL t).length = v from HVV.out]
      have HB5 := Lib.hid (HB4.out.trans (bl.mono HB4.out.size)); have hr5 := HR4.out.below bl
      obtain ⟨z0, z1, z2, z3, z4⟩ := hr5.cells
      have y0 := hr5.frozen 0
      have y1 := hr5.frozen 1
      have y2 := hr5.frozen 2
      have y3 := hr5.frozen 3
      have y4 := hr5.frozen 4
      have HR5 := Lib.hid hr5
      clear bl hr5
      go_wp2_with fail
      refine (sizeS_any s l w5 hs HLL.out).mono ?_
      rintro e w6 ⟨rfl, rfl⟩
      go_wp2_with fail
      obtain ⟨hq1, hq2⟩ := HR5.out.store (.int .i64 (q : Int)) (.int .i64 (sd : Int)) (.int .i64 ((v : Int) - q)) (.int .i64 ((l : Int) - ((v : Int) - q))) (.int .i64 ((2 * (q : Int) - v + l - sd).tdiv 2))
      obtain ⟨k0, k1, k2, k3, k4⟩ := hq1.cells
      have HBW := Lib.hid (HB5.out.grown hq2 HB5.out.size (fun k hk => by cases hk; exact Nat.le_refl _))
      clear hq1 hq2
      exact bodyPost_ret (v := aggOf (subI q sd v l)) (by simp [results, Try.results49, go_sem, k0, k1, k2, k3, k4, aggOf, subI]) rfl ⟨rfl, HBW.out⟩

end Go.Proofs.Ytloobhfjmcffoaa

/-
  Tutte's quadrangulation: the model's; both by contract.
-/
import Derived.Test.YtdbknfdpgooioaaTutP
import Derived.Deep.RegionLaw
import Derived.Deep.AppendLies
namespace Go.Proofs.Ytdbknfdpgooioaa
open Go.RowKit

noncomputable def tqR (t f : List Int) : Bool × List Int × List Int := if mapV t f = true ∧ t.length ≤ 6 then (true, tqT t f, flipL t.length) else (false, [], [])
theorem tqR_len {t f yt yf : List Int} {ok : Bool} (h : tqR t f = (ok, yt, yf)) : yt.length ≤ 12 ∧ yf.length ≤ 12 := by
  unfold tqR at h
  split at h
  · rename_i hb
    injection h with _ h; injection h with h1 h2
    rw [← h1, ← h2, tqT, tqL_len, flipL_len]; omega
  · injection h with _ h; injection h with h1 h2; rw [← h1, ← h2]; simp

set_option maxHeartbeats 1600000 in
theorem impl_tq_yes (w : World) (A A' : Option Addr) (n c c' : Nat) (t f : List Int) (h : Rd w A n t) (h' : Rd w A' n f) (hm : IsMap t f) (hn : n ≤ 6) :
    Calls Try.prog 14 #[.agg #[.slice A n c, .slice A' n c']] w fun e w' => ∃ u u', e = .returned (.tuple #[.agg #[u, u'], .bool true]) ∧ OwnM w' w.heap.size u u' (tqT t f) (flipL n) ∧ Below w.heap.size w w' := by
  obtain ⟨W0, hW0, hx, hy, hb, hz⟩ := two_boxes w 27 27 (.slice A n c) (.slice A' n c') (.slice none 0 0) (.slice none 0 0)
  have HX := Lib.hid hx; have HY := Lib.hid hy; have HB := Lib.hid hb; have HZ := Lib.hid hz; have H := Lib.hid h; have H' := Lib.hid h'; have HM := Lib.hid hm; have HV := Lib.hid (mapV_iff.2 hm); clear hx hy hb hz h h' hm
  go_enter Try.func14, Try.ntmps14
  go_wp2_with (first
    | (go_at_call 37; refine (valid_lit w.heap.size A A' n n c c' t f W0 HX.out (H.out.below HB.out) (H'.out.below HB.out) (by omega) (by omega) HV.out).mono ?_; rintro e w1 ⟨rfl, b⟩; have hx := HX.out.below b; have c0 := hx.cell0; have HX1 := Lib.hid hx; have HY1 := Lib.hid (HY.out.below b); have HB1 := Lib.hid (HB.out.trans (b.mono HB.out.size)); have HZ1 := Lib.hid b.size; clear b hx)
    | (go_at_call 38; refine (tutteQuad_any w.heap.size A A' n c c' t f w1 HX1.out (H.out.below HB1.out) (H'.out.below HB1.out) HM.out).mono ?_; rintro e w2 ⟨u, u', rfl, o, b⟩; obtain ⟨A5, c5, A6, c6, rfl, rfl, -, -⟩ := o.form (n := 2 * n) (n' := 2 * n) (by rw [tqT, tqL_len, H.out.1]) (flipL_len n); have HO := Lib.hid o; have HB2 := Lib.hid (HB1.out.trans (b.mono HB1.out.size)); have hy2 := HY1.out.below b; have d0 := hy2.cell0; have d1 := hy2.cell1; have d2 := hy2.frozen 0; have d3 := hy2.frozen 1; have HY2 := Lib.hid hy2; clear hy2 o b))
  have hs1 := HZ.out
  have hs2 := HZ1.out
  obtain ⟨hq1, hq2⟩ := HY2.out.store2 (.slice A5 (2 * n) c5) (.slice A6 (2 * n) c6)
  have k0 := hq1.cell0
  have k1 := hq1.cell1
  have HD := Lib.hid (pair_done HO.out.turn HO.out.flip HO.out.apart HB2.out hq2 (by omega) (by omega))
  clear hq1 hq2
  exact bodyPost_ret (v := .tuple #[.agg #[.slice A5 (2 * n) c5, .slice A6 (2 * n) c6], .bool true]) (by simp [results, Try.results14, go_sem, k0, k1]) rfl ⟨_, _, rfl, HD.out.1, HD.out.2⟩

theorem impl_tq_no (w : World) (A A' : Option Addr) (n n' c c' : Nat) (t f : List Int) (h : Rd w A n t) (h' : Rd w A' n' f) (hn : n ≤ 1048576) (hn' : n' ≤ 1048576) (hv : mapV t f = false ∨ 6 < n) :
    Calls Try.prog 14 #[.agg #[.slice A n c, .slice A' n' c']] w fun e w' => ∃ u u', e = .returned (.tuple #[.agg #[u, u'], .bool false]) ∧ OwnM w' w.heap.size u u' [] [] ∧ Below w.heap.size w w' := by
  obtain ⟨W0, hW0, hx, hy, hb, hz⟩ := two_boxes w 27 27 (.slice A n c) (.slice A' n' c') (.slice none 0 0) (.slice none 0 0)
  obtain ⟨v, hvv⟩ : ∃ v, mapV t f = v := ⟨_, rfl⟩
  have HX := Lib.hid hx; have HY := Lib.hid hy; have HB := Lib.hid hb; have H := Lib.hid h; have H' := Lib.hid h'; have HV := Lib.hid hvv; clear hx hy hb hz h h'
  rw [hvv] at hv
  clear hvv
  have key : v = false ∨ (v = true ∧ 6 < n) := by cases v <;> simp_all
  clear hv
  rcases key with rfl | ⟨rfl, h6⟩
  all_goals
    go_enter Try.func14, Try.ntmps14
    go_wp2_with (go_at_call 37; refine (valid_lit w.heap.size A A' n n' c c' t f W0 HX.out (H.out.below HB.out) (H'.out.below HB.out) hn hn' HV.out).mono ?_; rintro e w1 ⟨rfl, b⟩; have hx := HX.out.below b; have c0 := hx.cell0; have hy := HY.out.below b; have e0 := hy.cell0; have e1 := hy.cell1; have e2 := hy.frozen 0; have e3 := hy.frozen 1; obtain ⟨hq1, hq2⟩ := hy.store2 (.slice none 0 0) (.slice none 0 0); have k0 := hq1.cell0; have k1 := hq1.cell1; have HB1 : Hid (Below w.heap.size w ((w1.setCell ⟨w.heap.size + 1, 0, none⟩ (.slice none 0 0)).setCell ⟨w.heap.size + 1, 1, none⟩ (.slice none 0 0))) := (HB.out.trans (b.mono HB.out.size)).grown hq2 (by have := HB.out.size; have := b.size; omega) (fun k hk => by cases hk; omega); clear b hx hy hq1 hq2)
    exact bodyPost_ret (v := .tuple #[.agg #[.slice none 0 0, .slice none 0 0], .bool false]) (by simp [results, Try.results14, go_sem, k0, k1]) rfl ⟨_, _, rfl, OwnM.nil_ _ _, HB1.out⟩

theorem spec_tq_no (w : World) (A A' : Option Addr) (n n' c c' : Nat) (t f : List Int) (h : Rd w A n t) (h' : Rd w A' n' f) (hn : n ≤ 1048576) (hn' : n' ≤ 1048576) (hv : mapV t f = false ∨ 6 < n) :
    Calls Try.prog 13 #[.agg #[.slice A n c, .slice A' n' c']] w fun e w' => ∃ u u', e = .returned (.tuple #[.agg #[u, u'], .bool false]) ∧ OwnM w' w.heap.size u u' [] [] ∧ Below w.heap.size w w' := by
  obtain ⟨W0, hW0, hx, hy, hb, hz⟩ := two_boxes w 27 27 (.slice A n c) (.slice A' n' c') (.slice none 0 0) (.slice none 0 0)
  obtain ⟨v, hvv⟩ : ∃ v, mapV t f = v := ⟨_, rfl⟩
  have c00 := hx.cell0
  have c01 := hx.cell1
  have HX := Lib.hid hx; have HY := Lib.hid hy; have HB := Lib.hid hb; have H := Lib.hid h; have H' := Lib.hid h'; have HV := Lib.hid hvv; clear hx hy hb hz h h'
  rw [hvv] at hv
  clear hvv
  have key : v = false ∨ (v = true ∧ 6 < n) := by cases v <;> simp_all
  clear hv
  rcases key with rfl | ⟨rfl, h6⟩
  all_goals
    go_enter Try.func13, Try.ntmps13
    go_wp2_with (go_at_call 27; refine (spec_mapV W0 A A' n n' c c' t f (H.out.below HB.out) (H'.out.below HB.out) hn hn' HV.out).mono ?_; rintro e w1 ⟨rfl, b⟩; have hx := HX.out.below b; have c0 := hx.cell0; have hy := HY.out.below b; have e0 := hy.cell0; have e1 := hy.cell1; have e2 := hy.frozen 0; have e3 := hy.frozen 1; obtain ⟨hq1, hq2⟩ := hy.store2 (.slice none 0 0) (.slice none 0 0); have k0 := hq1.cell0; have k1 := hq1.cell1; have HB1 : Hid (Below w.heap.size w ((w1.setCell ⟨w.heap.size + 1, 0, none⟩ (.slice none 0 0)).setCell ⟨w.heap.size + 1, 1, none⟩ (.slice none 0 0))) := (HB.out.trans (b.mono HB.out.size)).grown hq2 (by have := HB.out.size; have := b.size; omega) (fun k hk => by cases hk; omega); clear b hx hy hq1 hq2)
    exact bodyPost_ret (v := .tuple #[.agg #[.slice none 0 0, .slice none 0 0], .bool false]) (by simp [results, Try.results13, go_sem, k0, k1]) rfl ⟨_, _, rfl, OwnM.nil_ _ _, HB1.out⟩

theorem cell_grown {w w' : World} {row : Option Nat} (hg : w.grownBy w' row) {a : Addr} {v : Value} (hc : w.cell? a = some v) (hne : row ≠ some a.block) : w'.cell? a = some v :=
  (World.cell?_of_block (hg.block _ (World.block_lt_of_cell? w _ hc) (fun e => hne e.symm))).trans hc
theorem Box.grown {w w' : World} {b : Nat} {t : TypeId} {u u' : Value} {row : Option Nat} (h : Box w b t u u') (hg : w.grownBy w' row) (hne : row ≠ some b) : Box w' b t u u' :=
  (hg.block b h.lt (fun e => hne e.symm)).trans h

theorem tq_after {wr wv w7 : World} {wz S g m cg n c k : Nat} {ad ad4 : Addr} {u u' vx vy : Value} {T : TypeId} (hv : Box wr S T (.slice (some ⟨g, 0, none⟩) m cg) u) (hx : Box wr wz T (.slice (some ad) n c) u') (hct : wr.cell? (ad.add k) = some vx) (hca : wr.cell? (ad4.add k) = some vy)
    (hal : Below wr.heap.size wr wv) (hg : wv.grownBy w7 (Value.ownBlock (.slice (some ⟨g, 0, none⟩) m cg))) (h1 : g ≠ S) (h2 : g ≠ wz) (h3 : ad.block ≠ g) (h4 : ad4.block ≠ g) :
    Hid (Box w7 S T (.slice (some ⟨g, 0, none⟩) m cg) u) ∧ Hid (w7.cell? ⟨S, 0, none⟩ = some (.slice (some ⟨g, 0, none⟩) m cg) ∧ w7.cell? ⟨wz, 0, none⟩ = some (.slice (some ad) n c) ∧ w7.cell? (ad.add k) = some vx ∧ w7.cell? (ad4.add k) = some vy) ∧ w7.frozen? ⟨S, 0, none⟩ = false := by
  have hv7 := (hv.below hal).grown hg (fun e => h1 (by injection e))
  have hx7 := (hx.below hal).grown hg (fun e => h2 (by injection e))
  exact ⟨hv7, ⟨hv7.cell0, hx7.cell0, cell_grown hg ((hal.cell (World.block_lt_of_cell? _ _ hct)).trans hct) (fun e => h3 (by rw [add_block] at e; injection e with e; exact e.symm)), cell_grown hg ((hal.cell (World.block_lt_of_cell? _ _ hca)).trans hca) (fun e => h4 (by rw [add_block] at e; injection e with e; exact e.symm))⟩, hv7.frozen 0⟩

theorem tq_more {wr wv w7 W6 : World} {S g g3 c3 m cg k n n2 cf E0 : Nat} {Af : Option Addr} {t al : List Int} {x y : Nat} {T : TypeId} (hv7 : Box w7 S T (.slice (some ⟨g, 0, none⟩) m cg) (.slice Af n2 cf))
    (hn7 : w7.ownsRow E0 3 1 (.slice (some ⟨g3, 0, none⟩) (m + 2) c3) (m + 2) (ints (tqL t al k) ++ [.int .i64 (2 * (x : Int)), .int .i64 (2 * (y : Int) + 1)])) (hal : Below wr.heap.size wr wv)
    (hg7 : wv.grownBy w7 (Value.ownBlock (.slice (some ⟨g, 0, none⟩) m cg))) (hat : Value.ownBlock (.slice (some ⟨g, 0, none⟩) m cg) = some g3 ∨ g3 = wr.heap.size + 1) (hgg : g = E0 ∨ S < g)
    (hfo : Own wr (E0 + 1) (.slice Af n2 cf) (flipL n)) (hfi : ∀ k, (Value.slice Af n2 cf).ownBlock = some k → E0 + 1 ≤ k ∧ k < S) (hb : Below E0 W6 wr) (hsz : S < wr.heap.size) (hES : E0 < S) (hm : m = 2 * k) (hx : gi t k = x) (hy : gi al k = y) :
    (g3 = E0 ∨ S < g3) ∧ Box (w7.setCell ⟨S, 0, none⟩ (.slice (some ⟨g3, 0, none⟩) (m + 2) c3)) S T (.slice (some ⟨g3, 0, none⟩) (m + 2) c3) (.slice Af n2 cf) ∧ Own (w7.setCell ⟨S, 0, none⟩ (.slice (some ⟨g3, 0, none⟩) (m + 2) c3)) E0 (.slice (some ⟨g3, 0, none⟩) (m + 2) c3) (tqL t al (k + 1)) ∧
      Own (w7.setCell ⟨S, 0, none⟩ (.slice (some ⟨g3, 0, none⟩) (m + 2) c3)) (E0 + 1) (.slice Af n2 cf) (flipL n) ∧ Below E0 W6 (w7.setCell ⟨S, 0, none⟩ (.slice (some ⟨g3, 0, none⟩) (m + 2) c3)) ∧ S < (w7.setCell ⟨S, 0, none⟩ (.slice (some ⟨g3, 0, none⟩) (m + 2) c3)).heap.size := by
  have hg3 : g3 = E0 ∨ S < g3 := by
    rcases hat with h | h
    · have : g = g3 := by injection h
      omega
    · omega
  have hzv := hal.size
  have hz7 := hg7.size
  have hgs := grown_set w7 S 0 (.slice (some ⟨g3, 0, none⟩) (m + 2) c3)
  refine ⟨hg3, ?_, ?_, ?_, ?_, ?_⟩
  · unfold Box; rw [set_row2 hv7]; rfl
  · have h1 : Own w7 E0 (.slice (some ⟨g3, 0, none⟩) (m + 2) c3) (tqL t al (k + 1)) := by
      unfold Own
      rw [tqL_len, show 2 * (k + 1) = m + 2 by omega, tqL, ints, List.map_append, hx, hy]
      exact hn7
    exact h1.grown hgs (.inr fun e => by have : g3 = S := (by injection e); omega)
  · have h1 := (hfo.below hal).grown hg7 (by
      cases hk : (Value.slice Af n2 cf).ownBlock with
      | none => exact .inl rfl
      | some k' => exact .inr fun e => by have h2 := hfi k' hk; have : k' = g := (by injection e); omega)
    refine h1.grown hgs ?_
    cases hk : (Value.slice Af n2 cf).ownBlock with
    | none => exact .inl rfl
    | some k' => exact .inr fun e => by have h2 := hfi k' hk; have : k' = S := (by injection e); omega
  · have hbs := hb.size
    exact ((hb.trans (hal.mono (by omega))).grown hg7 (by omega) (fun r e => by have : g = r := (by injection e); omega)).setCell (by show E0 ≤ S; omega) _
  · have := hgs.size; omega

set_option maxRecDepth 20000 in
set_option maxHeartbeats 3200000 in
theorem spec_tq_yes (w : World) (A A' : Option Addr) (n c c' : Nat) (t f : List Int) (h : Rd w A n t) (h' : Rd w A' n f) (hm : IsMap t f) (hn : n ≤ 6) :
    Calls Try.prog 13 #[.agg #[.slice A n c, .slice A' n c']] w fun e w' => ∃ u u', e = .returned (.tuple #[.agg #[u, u'], .bool true]) ∧ OwnM w' w.heap.size u u' (tqT t f) (flipL n) ∧ Below w.heap.size w w' := by
  obtain ⟨i0, hinf, hz0, hz1, hz2⟩ := info_parts info_int
  obtain ⟨W0, hW0, hx, hy, hb, hz⟩ := two_boxes w 27 27 (.slice A n c) (.slice A' n c') (.slice none 0 0) (.slice none 0 0)
  have hft : Vld (mulL f t) := hm.flip.mulL hm.turn hm.len.symm
  have c00 := hx.cell0
  have c01 := hx.cell1
  have HX := Lib.hid hx; have HY := Lib.hid hy; have HB := Lib.hid hb; have HZ := Lib.hid hz; have H := Lib.hid h; have H' := Lib.hid h'; have HM := Lib.hid hm; have HV := Lib.hid (mapV_iff.2 hm); have HFT := Lib.hid hft; clear hx hy hb hz h h' hm hft
  go_enter Try.func13, Try.ntmps13
  go_wp2_with fail
  refine (spec_mapV W0 A A' n n c c' t f (H.out.below HB.out) (H'.out.below HB.out) (by omega) (by omega) HV.out).mono ?_
  rintro e w1 ⟨rfl, b⟩
  have hx := HX.out.below b
  have c0 := hx.cell0
  have c1 := hx.cell1
  have HX1 := Lib.hid hx; have HY1 := Lib.hid (HY.out.below b); have HB1 := Lib.hid (HB.out.trans (b.mono HB.out.size)); have HZ1 := Lib.hid b.size; clear b hx
  go_wp2_with fail
  refine (l2Faces_any A A' n c c' t f w1 (H.out.below HB1.out) (H'.out.below HB1.out) HM.out.flip).mono ?_
  rintro e w2 ⟨v, rfl, o, b⟩
  obtain ⟨A3, c3, rfl, -, -⟩ := o.form' ((mulL_len f t).trans H'.out.1)
  have HF := Lib.hid (o.rd ((mulL_len f t).trans H'.out.1))
  have HB2 := Lib.hid (HB1.out.trans (b.mono HB1.out.size)); have HX2 := Lib.hid (HX1.out.below b); have HY2 := Lib.hid (HY1.out.below b)
  clear o b c0 c1
  go_wp2_with fail
  refine (l1Back_any A3 n c3 (mulL f t) w2 HF.out (by omega) HFT.out).mono ?_
  rintro e w3 ⟨v, rfl, o, b⟩
  obtain ⟨al, hal⟩ : ∃ al, backL (mulL f t) = al := ⟨_, rfl⟩
  have hll : al.length = n := by rw [← hal, backL_len, mulL_len]; exact H'.out.1
  have hav : Vld al := by rw [← hal]; exact backL_vld HFT.out
  rw [hal] at o
  obtain ⟨A4, c4, rfl, -, -⟩ := o.form' hll
  have HA := Lib.hid (o.rd hll); have HAL := Lib.hid hal; have HLL := Lib.hid hll; have HAV := Lib.hid hav
  have HB3 := Lib.hid (HB2.out.trans (b.mono HB2.out.size)); have hx3 := HX2.out.below b; have HX3 := Lib.hid hx3; have HY3 := Lib.hid (HY2.out.below b)
  clear o b hal hll hav
  -- the empty list, the flip, the variable
  obtain ⟨E0, hE0⟩ : ∃ E0, w3.heap.size = E0 := ⟨_, rfl⟩
  obtain ⟨W4, hW4⟩ : ∃ W4, w3.alloc (.cells #[] 3) = W4 := ⟨_, rfl⟩
  have ha4 : Below w3.heap.size w3 W4 := by rw [← hW4]; exact (Below.refl _ _).alloc (Nat.le_refl _) _
  have hz4 : W4.heap.size = E0 + 1 := by rw [← hW4, World.size_alloc, hE0]
  have ho4 : Own W4 E0 (.slice (some ⟨E0, 0, none⟩) 0 0) [] := by rw [← hW4, ← hE0]; exact Own.empty (Nat.le_refl _)
  have hx4 := hx3.below ha4
  have c0 := hx4.cell0
  have HX4 := Lib.hid hx4; have HY4 := Lib.hid (HY3.out.below ha4); have HB4 := Lib.hid (HB3.out.trans (ha4.mono HB3.out.size)); have HO4 := Lib.hid ho4; have HA4 := Lib.hid (HA.out.below ha4); have HZ4 := Lib.hid hz4
  have HE0 := Lib.hid hE0
  clear hx3 hx4 ha4 ho4 hz4 hE0
  go_wp2_with fail
  refine (l3Flip_any n W4 (by omega)).mono ?_
  rintro e w5 ⟨v, rfl, o, b⟩
  obtain ⟨n2, hn2⟩ : ∃ n2, 2 * n = n2 := ⟨_, rfl⟩
  obtain ⟨Af, cf, rfl, -, -⟩ := o.form' (n := n2) (by rw [flipL_len]; exact hn2)
  have HFO := Lib.hid o; have HN2 := Lib.hid hn2
  have HB5 := Lib.hid (HB4.out.trans (b.mono HB4.out.size)); have HX5 := Lib.hid (HX4.out.below b); have HY5 := Lib.hid (HY4.out.below b); have HO5 := Lib.hid (HO4.out.below b); have HA5 := Lib.hid (HA4.out.below b)
  have hz5 : E0 + 1 ≤ w5.heap.size := by have := b.size; rw [HZ4.out] at this; exact this
  clear o b hn2 hW4 c0
  obtain ⟨S, hS⟩ : ∃ S, w5.heap.size = S := ⟨_, rfl⟩
  rw [hS] at hz5
  have HFI : Hid (∀ k, (Value.slice Af n2 cf).ownBlock = some k → E0 + 1 ≤ k ∧ k < S) := fun k hk => by have := HFO.out.lt k hk; rw [HZ4.out, hS] at this; exact this
  obtain ⟨W6, hW6⟩ : ∃ W6, w5.alloc (.cells #[.slice (some ⟨E0, 0, none⟩) 0 0, .slice Af n2 cf] 27) = W6 := ⟨_, rfl⟩
  have ha6 : Below w5.heap.size w5 W6 := by rw [← hW6]; exact (Below.refl _ _).alloc (Nat.le_refl _) _
  have hv6 : Box W6 S 27 (.slice (some ⟨E0, 0, none⟩) 0 0) (.slice Af n2 cf) := by rw [← hW6, ← hS]; exact Box.new _ _ _ _
  have hz6 : W6.heap.size = S + 1 := by rw [← hW6, World.size_alloc, hS]
  have HX6 := Lib.hid (HX5.out.below ha6); have HY6 := Lib.hid (HY5.out.below ha6); have HB6 := Lib.hid (HB5.out.trans (ha6.mono HB5.out.size)); have HO6 := Lib.hid (HO5.out.below ha6); have HF6 := Lib.hid (HFO.out.below ha6); have HV6 := Lib.hid hv6; have HZ6 := Lib.hid hz6; have HA6 := Lib.hid (HA5.out.below ha6)
  have HSS := Lib.hid hS
  have hwE : w.heap.size + 1 < E0 := by have := HY3.out.lt; rw [HE0.out] at this; exact this
  clear ha6 hv6 hz6
  rw [show w3.heap.size = E0 from HE0.out]
  go_wp2_with fail
  clear hS hW6
  have hSw : S < W6.heap.size := by have := HZ6.out; omega
  have hSB : w.heap.size ≤ E0 := by omega
  have hES : E0 < S := by omega
  go_loopw [6] (fun iv wr => ∃ (k m g cg : Nat), k ≤ n ∧ m = 2 * k ∧ iv = .int .i64 k ∧ (g = E0 ∨ S < g) ∧ Hid (Box wr S 27 (.slice (some ⟨g, 0, none⟩) m cg) (.slice Af n2 cf)) ∧ Hid (Own wr E0 (.slice (some ⟨g, 0, none⟩) m cg) (tqL t al k)) ∧ Hid (Own wr (E0 + 1) (.slice Af n2 cf) (flipL n)) ∧ Hid (Below E0 W6 wr) ∧ Hid (S < wr.heap.size)) (fun iv _ => n - (intOf iv).toNat)
  case atStart => exact ⟨0, 0, E0, 0, Nat.zero_le _, rfl, rfl, .inl rfl, HV6.out, HO6.out, by have := HF6.out; rwa [HZ4.out] at this, Below.refl _ _, hSw⟩
  case round =>
    obtain ⟨k, m, g, cg, hk, hm2, rfl, hgg, hv, ho, hfo, hb, hsz⟩ := hrel
    have hgE : E0 ≤ g := by rcases hgg with h | h <;> omega
    have hx : Box wr w.heap.size 27 (.slice A n c) (.slice A' n c') := (hb.out.block _ (by omega)).trans HX6.out
    have hy : Box wr (w.heap.size + 1) 27 (.slice none 0 0) (.slice none 0 0) := (hb.out.block _ (by omega)).trans HY6.out
    have c0 := hx.cell0
    have HXR := Lib.hid hx; have HYR := Lib.hid hy
    clear hx hy
    by_cases hlt : k < n
    · have hbw : ∀ {A0 : Option Addr} {n0 : Nat} {xs : List Int}, Rd W6 A0 n0 xs → (∀ ad : Addr, A0 = some ad → 0 < n0 → ad.block < E0) → Rd wr A0 n0 xs := fun hr hlt => by
        refine ⟨hr.1, fun hp => ?_⟩
        obtain ⟨ad, e, hc⟩ := hr.2 hp
        refine ⟨ad, e, fun j hj => (hb.out.cell ?_).trans (hc j hj)⟩
        rw [add_block]; exact hlt ad e hp
      have hrt : Rd wr A n t := hbw (H.out.below HB6.out) (fun ad e hp => by have := H.out.lt ad e hp; omega)
      have hra : Rd wr A4 n al := hbw HA6.out (fun ad e hp => by have := HA.out.lt ad e hp; rw [HE0.out] at this; exact this)
      obtain ⟨ad, rfl, hct⟩ := hrt.at_ hlt
      obtain ⟨ad4, rfl, hca⟩ := hra.at_ hlt
      obtain ⟨x, hx, hxn, -⟩ := (HM.out.turn.into H.out.1).nat (j := k) (by rw [H.out.1]; exact hlt)
      obtain ⟨y, hy, hyn, -⟩ := (HAV.out.into HLL.out).nat (j := k) (by rw [HLL.out]; exact hlt)
      rw [hx] at hct
      rw [hy] at hca
      have g1 : IntKind.i64.wrap (2 * (x : Int)) = 2 * (x : Int) := IntWalk.i64_in _ (by omega)
      have g2 : IntKind.i64.wrap (2 * (y : Int)) = 2 * (y : Int) := IntWalk.i64_in _ (by omega)
      have g3 : IntKind.i64.wrap (2 * (y : Int) + 1) = 2 * (y : Int) + 1 := IntWalk.i64_in _ (by omega)
      have hk0 : (0 : Int) ≤ (k : Int) := by omega
      have hkn : (k : Int) < (n : Int) := by omega
      have cv := hv.out.cell0
      have hmm : m ≤ 24 := by omega
      have hwr := hb.out.size
      have HAD : Hid (ad.block < E0) := by have := H.out.lt ad rfl (by omega); rw [Hid]; omega
      have HAD4 : Hid (ad4.block < E0) := by have := HA.out.lt ad4 rfl (by omega); rw [HE0.out] at this; exact this
      have hnews := flip_news wr (.int .i64 (2 * (x : Int))) (.int .i64 (2 * (y : Int) + 1)) 3
      have HNW := Lib.hid hnews
      have HM2 := Lib.hid hm2
      have HOA : Hid (wr.ownsRow E0 3 1 (.slice (some ⟨g, 0, none⟩) m cg) m (ints (tqL t al k))) := by
        have h1 := ho.out
        unfold Own at h1
        rwa [show (tqL t al k).length = m from by rw [tqL_len, hm2]] at h1
      have HNE : Hid (g ≠ S ∧ g ≠ w.heap.size ∧ ad.block ≠ g ∧ ad4.block ≠ g) := by
        have q1 := HAD.out; have q2 := HAD4.out
        refine ⟨?_, ?_, ?_, ?_⟩ <;> omega
      have HCT := Lib.hid hct; have HCA := Lib.hid hca; have HXX := Lib.hid hx; have HYY := Lib.hid hy
      clear hrt hra hx hy hnews hm2 hbw
      have cva : (wr.alloc (.cells #[.int .i64 (2 * (x : Int)), .int .i64 (2 * (y : Int) + 1)] 3)).cell? ⟨S, 0, none⟩ = some (.slice (some ⟨g, 0, none⟩) m cg) := (hv.out.below ((Below.refl _ _).alloc (Nat.le_refl _) _)).cell0
      go_wp2_with fail
      go_region_law (refine step_append_lies (o := ⟨some 48, _, _, _, _, _⟩) (hgd := rfl) (s := .tmp 34) (x := .tmp 47) (t := 22) (ho := rfl) (base := E0) (e := 3) (i := i0) (z := .int .i64 0) (size := 1) (bytes := 8) (ht := Try.underlying22) (hi := hinf) (hz := hz0) (hsize := hz1) (hby := hz2) (hzs := rfl) (hsz := by decide) (v := .slice (some ⟨g, 0, none⟩) m cg) (n := m) (xs := ints (tqL t al k)) (hs := by simp [Act.eval]) (hown := World.ownsRow.alloc HOA.out _) (ad := ⟨wr.heap.size, 0, none⟩) (m := 2) (c := 2) (news := [.int .i64 (2 * (x : Int)), .int .i64 (2 * (y : Int) + 1)]) (hx := by simp [Act.eval]) (hl := rfl) (hnews := HNW.out) (h1 := by intro u hu; simp at hu; rcases hu with rfl | rfl <;> rfl) (hm := by omega) (h63 := by unfold maxLen; omega) (hbytes := by omega) (hbase := by simp; omega) (H := wr.heap.size + 1) (hH := by simp) (h := ?_); intro g3' c3' w7 hown7 hgrow7 hat7 hlt7; have HN7 := Lib.hid hown7; have HG7 := Lib.hid hgrow7; have HAT7 := Lib.hid hat7; clear hown7 hgrow7 hat7; have hta := tq_after hv.out HXR.out HCT.out HCA.out (by first | exact (Below.refl _ _).alloc (Nat.le_refl _) _ | exact below_drewN ((Below.refl _ _).alloc (Nat.le_refl _) _) 1 | exact below_drewN ((Below.refl _ _).alloc (Nat.le_refl _) _) _) HG7.out HNE.out.1 HNE.out.2.1 HNE.out.2.2.1 HNE.out.2.2.2; have HV7 := hta.1; have f7 := hta.2.2; have c7 := hta.1.out.cell0; have KM := Lib.hid (tq_more hta.1.out HN7.out (by first | exact (Below.refl _ _).alloc (Nat.le_refl _) _ | exact below_drewN ((Below.refl _ _).alloc (Nat.le_refl _) _) 1 | exact below_drewN ((Below.refl _ _).alloc (Nat.le_refl _) _) _) HG7.out HAT7.out hgg hfo.out HFI.out hb.out hsz.out hES HM2.out HXX.out HYY.out); clear hta)
      all_goals
        obtain ⟨k1, k2, k3, k4, k5, k6⟩ := KM.out
        have K1 := Lib.hid k1; have K2 := Lib.hid k2; have K3 := Lib.hid k3; have K4 := Lib.hid k4; have K5 := Lib.hid k5; have K6 := Lib.hid k6
        clear k1 k2 k3 k4 k5 k6 c7 f7 cva cv g1 g2 g3
        go_simp
        go_wp2
        go_roundw
        case rel => exact ⟨k + 1, m + 2, g3', c3', by omega, by have := HM2.out; omega, by go_num, K1.out, K2.out, K3.out, K4.out, K5.out, K6.out⟩
        case measure => simp [intOf]; omega
    · have hkn : k = n := by omega
      have HK := Lib.hid hkn; have HM2 := Lib.hid hm2; clear hkn hm2
      have cv0 := hv.out.cell0
      have cv1 := hv.out.cell1
      have e0 := HYR.out.cell0
      have e1 := HYR.out.cell1
      have e2 := HYR.out.frozen 0
      have e3 := HYR.out.frozen 1
      obtain ⟨hq1, hq2⟩ := HYR.out.store2 (.slice (some ⟨g, 0, none⟩) m cg) (.slice Af n2 cf)
      have k0 := hq1.cell0
      have k1 := hq1.cell1
      have hbw : Below w.heap.size w wr := HB6.out.trans (hb.out.mono hSB)
      have htq : tqL t al k = tqT t f := by rw [HK.out, tqT, HAL.out, H.out.1]
      have HD := Lib.hid (pair_done (u := .slice (some ⟨g, 0, none⟩) m cg) (u' := .slice Af n2 cf) (t := tqT t f) (lo := E0) (by rw [← htq]; exact ho.out) (hfo.out.mono (by omega)) (fun q hq hq' => by
        have hqg : q = g := by cases hq; rfl
        have := HFI.out q hq'
        omega) hbw hq2 (by omega) (by omega))
      clear hq1 hq2 hbw htq
      go_wp2_with fail
      exact bodyPost_ret (v := .tuple #[.agg #[.slice (some ⟨g, 0, none⟩) m cg, .slice Af n2 cf], .bool true]) (by simp [results, Try.results13, go_sem, k0, k1]) rfl ⟨_, _, rfl, HD.out.1, HD.out.2⟩

theorem spec_tqR (w : World) (A A' : Option Addr) (n n' c c' : Nat) (t f : List Int) (h : Rd w A n t) (h' : Rd w A' n' f) (hn : n ≤ 1048576) (hn' : n' ≤ 1048576) {ok : Bool} {yt yf : List Int} (hR : tqR t f = (ok, yt, yf)) :
    Calls Try.prog 13 #[.agg #[.slice A n c, .slice A' n' c']] w fun e w' => ∃ u u', e = .returned (.tuple #[.agg #[u, u'], .bool ok]) ∧ OwnM w' w.heap.size u u' yt yf ∧ Below w.heap.size w w' := by
  by_cases hv : mapV t f = true ∧ t.length ≤ 6
  · have hm := mapV_iff.1 hv.1
    rw [tqR, if_pos hv] at hR
    simp only [Prod.mk.injEq] at hR
    obtain ⟨rfl, rfl, rfl⟩ := hR
    obtain rfl : n = n' := hm.same h.1 h'.1
    have h6 : n ≤ 6 := by rw [← h.1]; exact hv.2
    rw [h.1]
    exact spec_tq_yes w A A' n c c' t f h h' hm h6
  · rw [tqR, if_neg hv] at hR
    simp only [Prod.mk.injEq] at hR
    obtain ⟨rfl, rfl, rfl⟩ := hR
    refine spec_tq_no w A A' n n' c c' t f h h' hn hn' ?_
    rw [h.1] at hv
    by_cases hm : mapV t f = true
    · exact .inr (by have : ¬ n ≤ 6 := fun h6 => hv ⟨hm, h6⟩; omega)
    · exact .inl (by simpa using hm)
theorem impl_tqR (w : World) (A A' : Option Addr) (n n' c c' : Nat) (t f : List Int) (h : Rd w A n t) (h' : Rd w A' n' f) (hn : n ≤ 1048576) (hn' : n' ≤ 1048576) {ok : Bool} {yt yf : List Int} (hR : tqR t f = (ok, yt, yf)) :
    Calls Try.prog 14 #[.agg #[.slice A n c, .slice A' n' c']] w fun e w' => ∃ u u', e = .returned (.tuple #[.agg #[u, u'], .bool ok]) ∧ OwnM w' w.heap.size u u' yt yf ∧ Below w.heap.size w w' := by
  by_cases hv : mapV t f = true ∧ t.length ≤ 6
  · have hm := mapV_iff.1 hv.1
    rw [tqR, if_pos hv] at hR
    simp only [Prod.mk.injEq] at hR
    obtain ⟨rfl, rfl, rfl⟩ := hR
    obtain rfl : n = n' := hm.same h.1 h'.1
    have h6 : n ≤ 6 := by rw [← h.1]; exact hv.2
    rw [h.1]
    exact impl_tq_yes w A A' n c c' t f h h' hm h6
  · rw [tqR, if_neg hv] at hR
    simp only [Prod.mk.injEq] at hR
    obtain ⟨rfl, rfl, rfl⟩ := hR
    refine impl_tq_no w A A' n n' c c' t f h h' hn hn' ?_
    rw [h.1] at hv
    by_cases hm : mapV t f = true
    · exact .inr (by have : ¬ n ≤ 6 := fun h6 => hv ⟨hm, h6⟩; omega)
    · exact .inl (by simpa using hm)

end Go.Proofs.Ytdbknfdpgooioaa

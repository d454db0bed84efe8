/-
  Sheets renamed at a vertex, the program's: a copy of a row of permutations, a voltage renamed, the lists of a voltage.
-/
import Derived.Test.YthcdhkelpepeeaaCovT
import Derived.Test.YthcdhkelpepeeaaVtx
namespace Go.Proofs.Ythcdhkelpepeeaa
open Go.RowKit
set_option linter.unusedVariables false

set_option maxHeartbeats 1600000 in
theorem clone_perms (w : World) (lo g n c : Nat) (F : Nat → Option (List Int)) (h : Alg w lo g n c F) (hn : n ≤ 1048576) (hall : ∀ j, j < n → ∃ p, F j = some p ∧ 0 < p.length) (hnc : n ≤ c) :
    Calls Try.prog 102 #[.slice (some ⟨g, 0, none⟩) n c] w fun e w' => ∃ g' c', e = .returned (.slice (some ⟨g', 0, none⟩) n c') ∧ Alg w' w.heap.size g' n c' F ∧ Below w.heap.size w w' := by
  obtain ⟨i1, hinf, hz0, hz1, hz2⟩ := info_parts info_perm
  obtain ⟨vs, hl, ho, hr⟩ := h
  have hb0 : Below w.heap.size w (w.alloc (.cells #[] 72)) := (Below.refl _ _).alloc (Nat.le_refl _) _
  have hE : (w.alloc (.cells #[] 72)).ownsRow w.heap.size 72 1 (.slice (some ⟨w.heap.size, 0, none⟩) 0 0) 0 [] := World.ownsRow_lit w #[] 0 (Nat.le_refl _) (Nat.zero_le _) rfl
  have HNW : Hid (∀ j u', vs[j]? = some u' → (w.alloc (.cells #[] 72)).cell? ((⟨g, 0, none⟩ : Addr).add j) = some u') := fun j u' hj => World.ownsRow.cells (World.ownsRow.alloc ho _) rfl j u' hj
  have HON : Hid (∀ u, u ∈ vs → u.oneCell' = true) := fun u hu => by
    obtain ⟨j, hj, rfl⟩ := List.getElem_of_mem hu
    obtain ⟨p, hp, -⟩ := hall j (by omega)
    obtain ⟨Aj, cj, h1, -⟩ := hr j (by omega) p hp
    have : vs[j] = .slice Aj p.length cj := by rw [← h1]; simp [List.getD, hj]
    rw [this]; rfl
  have HLN : Hid (vs.length = n * 1) := by rw [Hid, hl, Nat.mul_one]
  have HE := Lib.hid hE; have HB0 := Lib.hid hb0; have HL := Lib.hid hl; have HR := Lib.hid hr; have HALL := Lib.hid hall
  clear hb0 hE hl ho hr hall
  have hq := Lib.run_eql_slice_some_nil w ⟨g, 0, none⟩ n c Try.underlying85
  go_enter Try.func102, Try.ntmps102
  go_wp2_with (at_builtin; refine wpList_append_own _ rfl _ _ 85 rfl w.heap.size 72 i1 (.slice none 0 0) 1 24 Try.underlying85 hinf hz0 hz1 hz2 rfl (by decide) _ 0 [] rfl HE.out ⟨g, 0, none⟩ n c vs rfl HLN.out HNW.out HON.out (by unfold maxLen; omega) (by omega) (by simp) ?_; intro v1 w1 hown1 hgrow1 hat1; have HO := Lib.hid hown1; have HG := Lib.hid hgrow1; clear hown1 hgrow1)
  go_ret
  have hown := HO.out
  rw [List.nil_append, Nat.zero_add] at hown
  have hb1 : Below w.heap.size w w1 := HB0.out.grown HG.out (by simp) (fun k hk => (HE.out.lt k hk).1)
  obtain ⟨g', c', rfl⟩ : ∃ g' c', v1 = .slice (some ⟨g', 0, none⟩) n c' := by
    rcases hown.2 with ⟨e, -⟩ | ⟨g', cap, cur, e, -⟩
    · have := (hat1.1 e).1; cases this
    · exact ⟨g', cap, e⟩
  refine ⟨g', c', rfl, ⟨vs, HL.out, hown, fun j hj p hp => ?_⟩, hb1⟩
  obtain ⟨Aj, cj, h1, h2, h3⟩ := HR.out j hj p hp
  obtain ⟨p', hp', hpos⟩ := HALL.out j hj
  rw [hp] at hp'
  injection hp' with hp'
  subst hp'
  exact ⟨Aj, cj, h1, h2.below hb1, fun ad e => by have := h2.lt ad e hpos; have := (hown.lt g' rfl).1; omega⟩

theorem clone_perm (A : Option Addr) (n c : Nat) (xs : List Int) (w : World) (h : Rd w A n xs) (h1 : 1 ≤ n) (hn : n ≤ 1048576) :
    Calls Try.prog 103 #[.slice A n c] w fun e w' => ∃ v, e = .returned v ∧ Own w' w.heap.size v xs ∧ Below w.heap.size w w' := by
  obtain ⟨i0, hinf, hz0, hz1, hz2⟩ := info_parts info_int
  obtain ⟨ad, rfl, -⟩ := h.at_ (k := 0) (by omega)
  have hb0 : Below w.heap.size w (w.alloc (.cells #[] 3)) := (Below.refl _ _).alloc (Nat.le_refl _) _
  have HNW := Lib.hid (h.below hb0).news
  have HLN : Hid ((ints xs).length = n * 1) := by rw [Hid, ints_len, h.1, Nat.mul_one]
  have HE : Hid (Own (w.alloc (.cells #[] 3)) w.heap.size (.slice (some ⟨w.heap.size, 0, none⟩) 0 0) []) := Own.empty (Nat.le_refl _)
  have HB0 := Lib.hid hb0; have Hx := Lib.hid h.1; clear hb0 h
  have hq := Lib.run_eql_slice_some_nil w ad n c Try.underlying72
  go_enter Try.func103, Try.ntmps103
  go_wp2_with (at_builtin; refine wpList_append_own _ rfl _ _ 72 rfl w.heap.size 3 i0 (.int .i64 0) 1 8 Try.underlying72 hinf hz0 hz1 hz2 rfl (by decide) _ 0 [] rfl HE.out ad n c (ints xs) rfl HLN.out HNW.out ints_one (by unfold maxLen; omega) (by omega) (by simp) ?_; intro v1 w1 hown1 hgrow1 _; have HO := Lib.hid hown1; have HG := Lib.hid hgrow1; clear hown1 hgrow1)
  go_ret
  refine ⟨_, rfl, ?_, HB0.out.grown HG.out (by simp) (fun k hk => (HE.out.lt k hk).1)⟩
  have := HO.out
  unfold Own
  rw [Hx.out]
  simpa using this

/-- A voltage that lies at block b, opened: n darts. -/
theorem VAt.open_ {w : World} {b k : Nat} {t f : List Int} {vss : List (List Int)} (h : VAt w b t f k vss) {n : Nat} (hn : f.length = n) :
    ∃ (A : Option Addr) (c : Nat) (A' : Option Addr) (c' lo g cg : Nat), VBox w b A n c A' n c' k g cg ∧ Rd w A n t ∧ Rd w A' n f ∧ Alg w lo g n cg (fun j => some (dV f vss j)) := by
  subst hn; exact h
theorem VAt.of_ {w : World} {b n k c c' lo g cg : Nat} {A A' : Option Addr} {t f : List Int} {vss : List (List Int)} (hn : f.length = n) (h1 : VBox w b A n c A' n c' k g cg) (h2 : Rd w A n t) (h3 : Rd w A' n f) (h4 : Alg w lo g n cg (fun j => some (dV f vss j))) : VAt w b t f k vss := by
  subst hn; exact ⟨A, c, A', c', lo, g, cg, h1, h2, h3, h4⟩
theorem Alg.cap {w : World} {lo g n c : Nat} {F : Nat → Option (List Int)} (h : Alg w lo g n c F) : n ≤ c := by
  obtain ⟨vs, hl, ho, -⟩ := h
  rcases ho.2 with ⟨e, -⟩ | ⟨g', cap, cur, e, -, -, hc, -⟩
  · simp at e
  · simp only [Value.slice.injEq, true_and] at e
    omega
theorem VBox.kept_ {w w' : World} {row : Option Nat} {b n c n' c' k g cg : Nat} {A A' : Option Addr} (h : VBox w b A n c A' n' c' k g cg) (hg : w.grownBy w' row) (hne : row ≠ some b) : VBox w' b A n c A' n' c' k g cg := (hg.block b h.lt (fun e => hne e.symm)).trans h

set_option maxRecDepth 20000 in
set_option maxHeartbeats 6400000 in
theorem renamedAt_any (w : World) (b : Nat) (t f : List Int) (k : Nat) (vss : List (List Int)) (hv : Volt t f k vss) (h : VAt w b t f k vss) (d : Nat) (hd : d < f.length) (E : Option Addr) (ec : Nat) (bs : List Int) (he : Rd w E k bs) (hbs : Vld bs) {nv : Int} (hnv : gi (vertL t) d = nv) :
    Calls Try.prog 72 #[.pointer (some ⟨b, 0, none⟩), .int .i64 d, .slice E k ec] w fun e w' => ∃ b', e = .returned (.pointer (some ⟨b', 0, none⟩)) ∧ VAt w' b' t f k (cjL (vertL t) f vss nv bs) ∧ Below w.heap.size w w' := by
  obtain ⟨n, hn⟩ : ∃ n, f.length = n := ⟨_, rfl⟩
  obtain ⟨A, c, A', c', lo, g, cg, hvb, hr1, hr2, hal⟩ := h.open_ hn
  have hn12 : n ≤ 12 := by rw [← hn]; exact hv.map.flip.2.1
  have hk1 := hv.one
  have hk6 := hv.six
  have htl : t.length = n := by rw [hv.map.len, hn]
  have hdn : d < n := by omega
  have HVL : Hid ((vertL t).length = n) := by rw [Hid, vertL_len, htl]
  have HDV : Hid (∀ j, j < n → Vld (dV f vss j) ∧ (dV f vss j).length = k) := fun j hj => hv.dV (by omega)
  have HBL : Hid (bs.length = k) := he.1
  have HBB : Hid ((backL bs).length = k) := by rw [Hid, backL_len]; exact he.1
  have HNN := Lib.hid hn; have HVO := Lib.hid hv; have HVB := Lib.hid hvb; have H1 := Lib.hid hr1; have H2 := Lib.hid hr2; have HAL := Lib.hid hal; have HE := Lib.hid he; have HBV := Lib.hid hbs; have HNV := Lib.hid hnv
  have hbl := hvb.lt
  have c3 := hvb.cell3; have c0 := hvb.at_.cell0; have c1 := hvb.at_.cell1
  clear hv h hd hn hvb hr1 hr2 hal he hbs htl hnv
  go_enter Try.func72, Try.ntmps72
  go_wp2_with (first
    | (go_at_call 101; (refine (vertexNumbers_at b A A' n n c c' t w HVB.out.at_ H1.out HVO.out.map.turn).mono ?_; rintro e w1 ⟨v, rfl, o, bl⟩; obtain ⟨A3, c3', rfl, -, -⟩ := o.form' HVL.out; have HRV := Lib.hid (o.rd HVL.out); have HLV : Hid (∀ ad : Addr, A3 = some ad → ad.block < w1.heap.size) := (fun ad e => (o.lt ad.block (by rw [e]; rfl)).2); have HB1 := Lib.hid bl; have hvb1 := HVB.out.below bl; have HVB1 := Lib.hid hvb1; have d3 := hvb1.cell3; have HAL1 := Lib.hid (HAL.out.below bl); clear o bl c0 c1 c3 hvb1))
    | (go_at_call 102; (refine (clone_perms w1 lo g n cg _ HAL1.out (by omega) (fun j hj => ⟨_, rfl, by have := (HDV.out j hj).2; omega⟩) HAL1.out.cap).mono ?_; rintro e w2 ⟨g2, c2, rfl, al, bl⟩; have HA2 := Lib.hid al; have HB2 := Lib.hid (HB1.out.trans (bl.mono HB1.out.size)); have hvb2 := HVB1.out.below bl; have HVB2 := Lib.hid hvb2; have e0 := hvb2.at_.cell0; have e1 := hvb2.at_.cell1; have HRV2 := Lib.hid (HRV.out.below bl); clear al bl d3 hvb2)))
  have hg2 : w1.heap.size ≤ g2 := HA2.out.lt.1
  have hw12 : w.heap.size ≤ w1.heap.size := HB1.out.size
  clear HAL HAL1 HVB HVB1 HRV
  go_loopw [9, 10, 26] (fun _ _ iv wr => ∃ x : Nat, x ≤ n ∧ iv = .int .i64 x ∧ Hid (Alg wr w1.heap.size g2 n c2 (fun j => some (if j < x then dC (vertL t) f nv bs (dV f vss j) j else dV f vss j))) ∧ Hid (w2.grownBy wr (some g2))) (fun _ _ iv _ => n - (intOf iv).toNat)
  case atStart => exact ⟨0, Nat.zero_le _, rfl, HA2.out.congr (fun j hj => by rw [if_neg (by omega)]), World.grownBy.refl _ _⟩
  case round =>
    clear e0 e1 HA2
    obtain ⟨x, hx, rfl, hal, hg⟩ := hrel
    have HBW : Hid (Below w.heap.size w wr) := HB2.out.grown hg.out HB2.out.size (fun q hq => by cases hq; omega)
    by_cases hlt : x < n
    · obtain ⟨y, hy, hyn, hgy⟩ := (HVO.out.map.flip.into HNN.out).nat (j := x) (by rw [HNN.out]; exact hlt)
      obtain ⟨adF, rfl, hcF⟩ := (H2.out.below HBW.out).at_ hlt
      rw [hy] at hcF
      have HRVr := Lib.hid (HRV2.out.kept_ hg.out (fun ad e h => by injection h with h; have := HLV.out ad e; omega))
      obtain ⟨ad3, rfl, hcx⟩ := HRVr.out.at_ hlt
      obtain ⟨_, e3, hcd⟩ := HRVr.out.at_ hdn
      injection e3 with e3; subst e3
      rw [HNV.out] at hcd
      obtain ⟨_, e3, hcy⟩ := HRVr.out.at_ hyn
      injection e3 with e3; subst e3
      obtain ⟨vx, hvx⟩ : ∃ vx, gi (vertL t) x = vx := ⟨_, rfl⟩
      obtain ⟨vy, hvy⟩ : ∃ vy, gi (vertL t) y = vy := ⟨_, rfl⟩
      rw [hvx] at hcx
      rw [hvy] at hcy
      have HVX := Lib.hid hvx; have HVY := Lib.hid hvy; have HGY := Lib.hid hgy
      clear hy hgy hvx hvy
      have HFX : Hid (dC (vertL t) f nv bs (dV f vss x) x = if vy = nv then mulL (if vx = nv then mulL (backL bs) (dV f vss x) else dV f vss x) bs else if vx = nv then mulL (backL bs) (dV f vss x) else dV f vss x) := by
        rw [Hid, dC, HGY.out, HVX.out, HVY.out]
      obtain ⟨a, ha⟩ : ∃ a, dV f vss x = a := ⟨_, rfl⟩
      have HAV := Lib.hid (HDV.out x hlt)
      rw [ha] at HFX HAV
      have HAX := Lib.hid ha; clear ha
      by_cases e1 : vx = nv
      · have hb1 : (vx == nv) = true := by simp [e1]
        have HE1 := Lib.hid e1; clear e1
        go_wp2_with fail
        go_quiet (fail)
        obtain ⟨Wd, hWd⟩ : ∃ Wd, wr.drewN nq = Wd := ⟨_, rfl⟩
        rw [hWd]
        have HGd : Hid (w2.grownBy Wd (some g2)) := hWd ▸ grownBy_trans hg.out (grown_of_below (below_drewN (Below.refl _ wr) nq))
        have HBd : Hid (Below w.heap.size w Wd) := hWd ▸ below_drewN HBW.out nq
        have HAd : Hid (Alg Wd w1.heap.size g2 n c2 _) := hWd ▸ hal.out.drewN nq
        obtain ⟨Ax, cx, hcx1, hrx⟩ := HAd.out.at_ hlt (p := a) (k := k) (by rw [if_neg (by omega), HAX.out]) HAV.out.2
        obtain ⟨v0, hv0, hf0⟩ := HAd.out.cell hlt
        have HRX := Lib.hid hrx
        have HEd := Lib.hid (HE.out.below HBd.out)
        clear hWd hcF hcx hcd hcy hb1 hrx
        go_wp2_with fail
        go_region_with (first
          | (go_at_call 92; (refine (back_any E k ec bs _ (HEd.out.drewN _) (by omega) HBV.out).mono ?_; rintro e w3 ⟨v, rfl, o, bl⟩; obtain ⟨Ab, cb, rfl, -, -⟩ := o.form' HBB.out; have BL : Hid (Below Wd.heap.size Wd w3) := Below.of_drewN bl; have HOB : Hid (Own w3 Wd.heap.size (.slice Ab k cb) (backL bs)) := o; clear o bl; have hcx3 := (BL.out.cell (World.block_lt_of_cell? Wd _ hcx1)).trans hcx1))
          | (go_at_call 94; (refine (then_any Ab Ax k k cb cx (backL bs) a _ (HOB.out.rd HBB.out) (HRX.out.below BL.out) (by omega) (by omega) ((backL_vld HBV.out).into HBB.out)).mono ?_; rintro e w4 ⟨v, rfl, o, bl⟩; obtain ⟨Am, cm, rfl, -, -⟩ := o.form' ((mulL_len _ _).trans HBB.out); have BL4 : Hid (Below w3.heap.size w3 w4) := bl; have HOM : Hid (Own w4 w3.heap.size (.slice Am k cm) (mulL (backL bs) a)) := o; clear o bl; obtain ⟨v4, hv4, hf4⟩ := ((HAd.out.below BL.out).below BL4.out).cell hlt)))
        all_goals
          have hp5 := ((HAd.out.below BL.out).below BL4.out).put (j := x) (k := k) (p := mulL (backL bs) a) (Ak := Am) (ck := cm) hlt ((mulL_len _ _).trans HBB.out) (HOM.out.rd ((mulL_len _ _).trans HBB.out)) (fun ad e' => by have := (HOM.out.lt ad.block (by rw [e']; rfl)).1; have := (HAd.out.below BL.out).lt.2; omega)
          obtain ⟨W5, hW5⟩ : ∃ W5, w4.setCell ⟨g2, x, none⟩ (.slice Am k cm) = W5 := ⟨_, rfl⟩
          rw [hW5] at hp5 ⊢
          have HP5 := Lib.hid hp5.1
          have HG5 : Hid (w2.grownBy W5 (some g2)) := grownBy_trans (grownBy_trans (grownBy_trans HGd.out (grown_of_below BL.out)) (grown_of_below BL4.out)) hp5.2
          have HB5 : Hid (Below w.heap.size w W5) := HB2.out.grown HG5.out HB2.out.size (fun q hq => by cases hq; omega)
          have HV5 : Hid (Vld (mulL (backL bs) a) ∧ (mulL (backL bs) a).length = k) := ⟨(backL_vld HBV.out).mulL HAV.out.1 (by rw [HBB.out, HAV.out.2]), (mulL_len _ _).trans HBB.out⟩
          clear hp5 hW5 hcx1 hcx3 hv0 hf0 hv4 hf4
          obtain ⟨_, e3, hcd5⟩ := (HRV2.out.kept_ HG5.out (fun ad e h => by injection h with h; have := HLV.out ad e; omega)).at_ hdn
          injection e3 with e3; subst e3
          rw [HNV.out] at hcd5
          obtain ⟨_, e3, hcy5⟩ := (HRV2.out.kept_ HG5.out (fun ad e h => by injection h with h; have := HLV.out ad e; omega)).at_ hyn
          injection e3 with e3; subst e3
          rw [HVY.out] at hcy5
          by_cases e2 : vy = nv
          · have hb2 : (vy == nv) = true := by simp [e2]
            have HFIN : Hid (dC (vertL t) f nv bs a x = mulL (mulL (backL bs) a) bs) := by rw [Hid, HFX.out, if_pos e2, if_pos HE1.out]
            clear e2
            go_wp2_with fail
            go_quiet (fail)
            obtain ⟨Wq, hWq⟩ : ∃ Wq, W5.drewN nq = Wq := ⟨_, rfl⟩
            rw [hWq]
            have HGq : Hid (w2.grownBy Wq (some g2)) := hWq ▸ grownBy_trans HG5.out (grown_of_below (below_drewN (Below.refl _ W5) nq))
            have HBq : Hid (Below w.heap.size w Wq) := hWq ▸ below_drewN HB5.out nq
            have HAq : Hid (Alg Wq w1.heap.size g2 n c2 _) := hWq ▸ HP5.out.drewN nq
            obtain ⟨Ay, cy, hcxq, hry⟩ := HAq.out.at_ hlt (p := mulL (backL bs) a) (k := k) (if_pos rfl) HV5.out.2
            have HRY := Lib.hid hry
            have HEq := Lib.hid (HE.out.below HBq.out)
            clear hWq hcd5 hcy5 hb2 hry
            go_wp2_with (go_at_call 94; refine (then_any Ay E k k cy ec (mulL (backL bs) a) bs Wq HRY.out HEq.out (by omega) (by omega) (HV5.out.1.into HV5.out.2)).mono ?_; rintro e w6 ⟨v, rfl, o, bl⟩; obtain ⟨An, cn, rfl, -, -⟩ := o.form' ((mulL_len _ _).trans HV5.out.2); have BL6 := Lib.hid bl; have HON := Lib.hid o; clear o bl; obtain ⟨v6, hv6, hf6⟩ := (HAq.out.below BL6.out).cell hlt; have hp6 := (HAq.out.below BL6.out).put (j := x) (k := k) (p := mulL (mulL (backL bs) a) bs) (Ak := An) (ck := cn) hlt ((mulL_len _ _).trans HV5.out.2) (HON.out.rd ((mulL_len _ _).trans HV5.out.2)) (fun ad e' => by have := (HON.out.lt ad.block (by rw [e']; rfl)).1; have := HAq.out.lt.2; omega); have HP6 := Lib.hid hp6; clear hp6)
            go_roundw
            case rel =>
              refine ⟨x + 1, by omega, by go_num, HP6.out.1.congr fun j hj => ?_, grownBy_trans (grownBy_trans HGq.out (grown_of_below BL6.out)) HP6.out.2⟩
              by_cases ej : j = x
              · rw [if_pos ej, ej, if_pos (by omega), HAX.out, HFIN.out]
              · first
                  | (rw [if_neg ej, if_neg ej])
                  | (rw [if_neg ej])
                by_cases h : j < x
                · rw [if_pos h, if_pos (by omega)]
                · rw [if_neg h, if_neg (by omega)]
            case measure => simp [intOf]; omega
          · have hb2 : (vy == nv) = false := by simp [e2]
            have HFIN : Hid (dC (vertL t) f nv bs a x = mulL (backL bs) a) := by rw [Hid, HFX.out, if_neg e2, if_pos HE1.out]
            clear e2
            go_wp2_with fail
            go_quiet (fail)
            go_wp2_with fail
            go_roundw
            case rel =>
              refine ⟨x + 1, by omega, by go_num, (HP5.out.drewN _).congr fun j hj => ?_, grownBy_trans HG5.out (grown_of_below (below_drewN (Below.refl _ W5) _))⟩
              by_cases ej : j = x
              · rw [if_pos ej, ej, if_pos (by omega), HAX.out, HFIN.out]
              · first
                  | (rw [if_neg ej, if_neg ej])
                  | (rw [if_neg ej])
                by_cases h : j < x
                · rw [if_pos h, if_pos (by omega)]
                · rw [if_neg h, if_neg (by omega)]
            case measure => simp [intOf]; omega
      · have hb1 : (vx == nv) = false := by simp [e1]
        have HE1 := Lib.hid e1; clear e1
        go_wp2_with fail
        go_quiet (fail)
        obtain ⟨W5, hWd⟩ : ∃ Wd, wr.drewN nq = Wd := ⟨_, rfl⟩
        rw [hWd]
        have HG5 : Hid (w2.grownBy W5 (some g2)) := hWd ▸ grownBy_trans hg.out (grown_of_below (below_drewN (Below.refl _ wr) nq))
        have HB5 : Hid (Below w.heap.size w W5) := hWd ▸ below_drewN HBW.out nq
        have HP5 : Hid (Alg W5 w1.heap.size g2 n c2 _) := hWd ▸ hal.out.drewN nq
        have HV5 := HAV
        clear hWd hcF hcx hcd hcy hb1
        go_wp2_with fail
        obtain ⟨_, e3, hcd5⟩ := (HRV2.out.kept_ HG5.out (fun ad e h => by injection h with h; have := HLV.out ad e; omega)).at_ hdn
        injection e3 with e3; subst e3
        rw [HNV.out] at hcd5
        obtain ⟨_, e3, hcy5⟩ := (HRV2.out.kept_ HG5.out (fun ad e h => by injection h with h; have := HLV.out ad e; omega)).at_ hyn
        injection e3 with e3; subst e3
        rw [HVY.out] at hcy5
        by_cases e2 : vy = nv
        · have hb2 : (vy == nv) = true := by simp [e2]
          have HFIN : Hid (dC (vertL t) f nv bs a x = mulL (a) bs) := by rw [Hid, HFX.out, if_pos e2, if_neg HE1.out]
          clear e2
          go_wp2_with fail
          go_quiet (fail)
          obtain ⟨Wq, hWq⟩ : ∃ Wq, W5.drewN nq = Wq := ⟨_, rfl⟩
          rw [hWq]
          have HGq : Hid (w2.grownBy Wq (some g2)) := hWq ▸ grownBy_trans HG5.out (grown_of_below (below_drewN (Below.refl _ W5) nq))
          have HBq : Hid (Below w.heap.size w Wq) := hWq ▸ below_drewN HB5.out nq
          have HAq : Hid (Alg Wq w1.heap.size g2 n c2 _) := hWq ▸ HP5.out.drewN nq
          obtain ⟨Ay, cy, hcxq, hry⟩ := HAq.out.at_ hlt (p := a) (k := k) (by rw [if_neg (by omega), HAX.out]) HV5.out.2
          have HRY := Lib.hid hry
          have HEq := Lib.hid (HE.out.below HBq.out)
          clear hWq hcd5 hcy5 hb2 hry
          go_wp2_with (go_at_call 94; refine (then_any Ay E k k cy ec (a) bs Wq HRY.out HEq.out (by omega) (by omega) (HV5.out.1.into HV5.out.2)).mono ?_; rintro e w6 ⟨v, rfl, o, bl⟩; obtain ⟨An, cn, rfl, -, -⟩ := o.form' ((mulL_len _ _).trans HV5.out.2); have BL6 := Lib.hid bl; have HON := Lib.hid o; clear o bl; obtain ⟨v6, hv6, hf6⟩ := (HAq.out.below BL6.out).cell hlt; have hp6 := (HAq.out.below BL6.out).put (j := x) (k := k) (p := mulL (a) bs) (Ak := An) (ck := cn) hlt ((mulL_len _ _).trans HV5.out.2) (HON.out.rd ((mulL_len _ _).trans HV5.out.2)) (fun ad e' => by have := (HON.out.lt ad.block (by rw [e']; rfl)).1; have := HAq.out.lt.2; omega); have HP6 := Lib.hid hp6; clear hp6)
          go_roundw
          case rel =>
            refine ⟨x + 1, by omega, by go_num, HP6.out.1.congr fun j hj => ?_, grownBy_trans (grownBy_trans HGq.out (grown_of_below BL6.out)) HP6.out.2⟩
            by_cases ej : j = x
            · rw [if_pos ej, ej, if_pos (by omega), HAX.out, HFIN.out]
            · try rw [if_neg ej]
              by_cases h : j < x
              · rw [if_pos h, if_pos (by omega)]
              · rw [if_neg h, if_neg (by omega)]
          case measure => simp [intOf]; omega
        · have hb2 : (vy == nv) = false := by simp [e2]
          have HFIN : Hid (dC (vertL t) f nv bs a x = a) := by rw [Hid, HFX.out, if_neg e2, if_neg HE1.out]
          clear e2
          go_wp2_with fail
          go_quiet (fail)
          go_wp2_with fail
          go_roundw
          case rel =>
            refine ⟨x + 1, by omega, by go_num, (HP5.out.drewN _).congr fun j hj => ?_, grownBy_trans HG5.out (grown_of_below (below_drewN (Below.refl _ W5) _))⟩
            by_cases ej : j = x
            · rw [ej, if_neg (by omega), if_pos (by omega), HAX.out, HFIN.out]
            · try rw [if_neg ej]
              by_cases h : j < x
              · rw [if_pos h, if_pos (by omega)]
              · rw [if_neg h, if_neg (by omega)]
          case measure => simp [intOf]; omega
    · obtain rfl : x = n := by omega
      have hvbr := HVB2.out.kept_ hg.out (fun h => by injection h with h; omega)
      have HVBr := Lib.hid hvbr
      have e0 := hvbr.at_.cell0; have e1 := hvbr.at_.cell1; have e2 := hvbr.cell2
      have HEND : Hid (∀ j, j < x → some (if j < x then dC (vertL t) f nv bs (dV f vss j) j else dV f vss j) = some (dV f (cjL (vertL t) f vss nv bs) j)) := fun j hj => by
        rw [if_pos hj, dV_cj HVO.out HBV.out HBL.out (by rw [HNN.out]; exact hj)]
      have HAB : Hid (Below wr.heap.size wr (wr.alloc (.cells #[.slice A x c, .slice A' x c', .int .i64 k, .slice (some ⟨g2, 0, none⟩) x c2] 87))) := (Below.refl _ _).alloc (Nat.le_refl _) _
      have HBX : Hid (VBox (wr.alloc (.cells #[.slice A x c, .slice A' x c', .int .i64 k, .slice (some ⟨g2, 0, none⟩) x c2] 87)) wr.heap.size A x c A' x c' k g2 c2) := heap_alloc_new wr _
      have HVF : Hid (VAt (wr.alloc (.cells #[.slice A x c, .slice A' x c', .int .i64 k, .slice (some ⟨g2, 0, none⟩) x c2] 87)) wr.heap.size t f k (cjL (vertL t) f vss nv bs)) :=
        VAt.of_ HNN.out HBX.out ((H1.out.below HBW.out).below HAB.out) ((H2.out.below HBW.out).below HAB.out) ((hal.out.below HAB.out).congr HEND.out)
      have HBF := Lib.hid (HBW.out.trans (HAB.out.mono HBW.out.size))
      clear hvbr
      go_wp2_with fail
      go_region
      all_goals
        go_wp2_with fail
        go_ret
        exact ⟨_, rfl, HVF.out, ⟨HBF.out.os, HBF.out.tape, HBF.out.output, HBF.out.size, HBF.out.block⟩⟩

end Go.Proofs.Ythcdhkelpepeeaa

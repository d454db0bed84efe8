/-
  Sheets renamed at a vertex, the program's: a copy of a row of permutations, a voltage renamed, the lists of a voltage.
  CoverConj: the program's.
-/
import Derived.Test.YthcdhkelpepeeaaCovT
import Derived.Test.YthcdhkelpepeeaaVtx
import Derived.Test.YthcdhkelpepeeaaFormR
namespace Go.Proofs.Ythcdhkelpepeeaa
open Go.RowKit
set_option linter.unusedVariables false

set_option maxHeartbeats 1600000 in
theorem clone_perms (w : World) (lo g n c : Nat) (F : Nat → Option (List Int)) (h : Alg w lo g n c F) (hn : n ≤ 1048576) (hall : ∀ j, j < n → ∃ p, F j = some p ∧ 0 < p.length) (hnc : n ≤ c) :
    Calls Try.prog 102 #[.slice (some ⟨g, 0, none⟩) n c] w fun e w' => ∃ g' c', e = .returned (.slice (some ⟨g', 0, none⟩) n c') ∧ Alg w' w.heap.size g' n c' F ∧ Below w.heap.size w w' := by
  obtain ⟨i1, hinf, hz0, hz1, hz2⟩ := info_parts info_perm
  obtain ⟨vs, hl, ho, hr⟩ := h
  have hb0 : Below w.heap.size w (w.alloc (.cells #[] 72)) := (Below.refl _ _).alloc (Nat.le_refl _) _
  have hE : (w.alloc (.cells #[] 72)).ownsRow w.heap.size 72 1 (.slice (some ⟨w.heap.size, 0, none⟩) 0 0) 0 [] := World.ownsRow_lit w #[] 0 (Nat.le_refl _) (Nat.zero_le _) rfl
  have HNW : Hid (∀ j u', vs[j]? = some u' → (w.alloc (.cells #[] 72)).cell? ((⟨g, 0, none⟩ : Addr).add j) = some u') := fun j u' hj => World.ownsRow.cells (World.ownsRow.alloc ho _) rfl j u' hj
  have HON : Hid (∀ u, u ∈ vs → u.oneCell' = true) := fun u hu => by
    obtain ⟨j, hj, rfl⟩ := List.getElem_of_mem hu
    obtain ⟨p, hp, -⟩ := hall j (by omega)
    obtain ⟨Aj, cj, h1, -⟩ := hr j (by omega) p hp
    have : vs[j] = .slice Aj p.length cj := by rw [← h1]; simp [List.getD, hj]
    rw [this]; rfl
  have HLN : Hid (vs.length = n * 1) := by rw [Hid, hl, Nat.mul_one]
  have HE := Lib.hid hE; have HB0 := Lib.hid hb0; have HL := Lib.hid hl; have HR := Lib.hid hr; have HALL := Lib.hid hall
  clear hb0 hE hl ho hr hall
  have hq := Lib.run_eql_slice_some_nil w ⟨g, 0, none⟩ n c Try.underlying85
  go_enter Try.func102, Try.ntmps102
  go_wp2_with (at_builtin; refine wpList_append_own _ rfl _ _ 85 rfl w.heap.size 72 i1 (.slice none 0 0) 1 24 Try.underlying85 hinf hz0 hz1 hz2 rfl (by decide) _ 0 [] rfl HE.out ⟨g, 0, none⟩ n c vs rfl HLN.out HNW.out HON.out (by unfold maxLen; omega) (by omega) (by simp) ?_; intro v1 w1 hown1 hgrow1 hat1; have HO := Lib.hid hown1; have HG := Lib.hid hgrow1; clear hown1 hgrow1)
  go_ret
  have hown := HO.out
  rw [List.nil_append, Nat.zero_add] at hown
  have hb1 : Below w.heap.size w w1 := HB0.out.grown HG.out (by simp) (fun k hk => (HE.out.lt k hk).1)
  obtain ⟨g', c', rfl⟩ : ∃ g' c', v1 = .slice (some ⟨g', 0, none⟩) n c' := by
    rcases hown.2 with ⟨e, -⟩ | ⟨g', cap, cur, e, -⟩
    · have := (hat1.1 e).1; cases this
    · exact ⟨g', cap, e⟩
  refine ⟨g', c', rfl, ⟨vs, HL.out, hown, fun j hj p hp => ?_⟩, hb1⟩
  obtain ⟨Aj, cj, h1, h2, h3⟩ := HR.out j hj p hp
  obtain ⟨p', hp', hpos⟩ := HALL.out j hj
  rw [hp] at hp'
  injection hp' with hp'
  subst hp'
  exact ⟨Aj, cj, h1, h2.below hb1, fun ad e => by have := h2.lt ad e hpos; have := (hown.lt g' rfl).1; omega⟩

theorem clone_perm (A : Option Addr) (n c : Nat) (xs : List Int) (w : World) (h : Rd w A n xs) (h1 : 1 ≤ n) (hn : n ≤ 1048576) :
    Calls Try.prog 103 #[.slice A n c] w fun e w' => ∃ v, e = .returned v ∧ Own w' w.heap.size v xs ∧ Below w.heap.size w w' := by
  obtain ⟨i0, hinf, hz0, hz1, hz2⟩ := info_parts info_int
  obtain ⟨ad, rfl, -⟩ := h.at_ (k := 0) (by omega)
  have hb0 : Below w.heap.size w (w.alloc (.cells #[] 3)) := (Below.refl _ _).alloc (Nat.le_refl _) _
  have HNW := Lib.hid (h.below hb0).news
  have HLN : Hid ((ints xs).length = n * 1) := by rw [Hid, ints_len, h.1, Nat.mul_one]
  have HE : Hid (Own (w.alloc (.cells #[] 3)) w.heap.size (.slice (some ⟨w.heap.size, 0, none⟩) 0 0) []) := Own.empty (Nat.le_refl _)
  have HB0 := Lib.hid hb0; have Hx := Lib.hid h.1; clear hb0 h
  have hq := Lib.run_eql_slice_some_nil w ad n c Try.underlying72
  go_enter Try.func103, Try.ntmps103
  go_wp2_with (at_builtin; refine wpList_append_own _ rfl _ _ 72 rfl w.heap.size 3 i0 (.int .i64 0) 1 8 Try.underlying72 hinf hz0 hz1 hz2 rfl (by decide) _ 0 [] rfl HE.out ad n c (ints xs) rfl HLN.out HNW.out ints_one (by unfold maxLen; omega) (by omega) (by simp) ?_; intro v1 w1 hown1 hgrow1 _; have HO := Lib.hid hown1; have HG := Lib.hid hgrow1; clear hown1 hgrow1)
  go_ret
  refine ⟨_, rfl, ?_, HB0.out.grown HG.out (by simp) (fun k hk => (HE.out.lt k hk).1)⟩
  have := HO.out
  unfold Own
  rw [Hx.out]
  simpa using this

/-- A voltage that lies at block b, opened: n darts. -/
theorem VAt.open_ {w : World} {b k : Nat} {t f : List Int} {vss : List (List Int)} (h : VAt w b t f k vss) {n : Nat} (hn : f.length = n) :
    ∃ (A : Option Addr) (c : Nat) (A' : Option Addr) (c' lo g cg : Nat), VBox w b A n c A' n c' k g cg ∧ Rd w A n t ∧ Rd w A' n f ∧ Alg w lo g n cg (fun j => some (dV f vss j)) := by
  subst hn; exact h
theorem VAt.of_ {w : World} {b n k c c' lo g cg : Nat} {A A' : Option Addr} {t f : List Int} {vss : List (List Int)} (hn : f.length = n) (h1 : VBox w b A n c A' n c' k g cg) (h2 : Rd w A n t) (h3 : Rd w A' n f) (h4 : Alg w lo g n cg (fun j => some (dV f vss j))) : VAt w b t f k vss := by
  subst hn; exact ⟨A, c, A', c', lo, g, cg, h1, h2, h3, h4⟩
theorem Alg.cap {w : World} {lo g n c : Nat} {F : Nat → Option (List Int)} (h : Alg w lo g n c F) : n ≤ c := by
  obtain ⟨vs, hl, ho, -⟩ := h
  rcases ho.2 with ⟨e, -⟩ | ⟨g', cap, cur, e, -, -, hc, -⟩
  · simp at e
  · simp only [Value.slice.injEq, true_and] at e
    omega
theorem VBox.kept_ {w w' : World} {row : Option Nat} {b n c n' c' k g cg : Nat} {A A' : Option Addr} (h : VBox w b A n c A' n' c' k g cg) (hg : w.grownBy w' row) (hne : row ≠ some b) : VBox w' b A n c A' n' c' k g cg := (hg.block b h.lt (fun e => hne e.symm)).trans h

set_option maxRecDepth 20000 in
set_option maxHeartbeats 6400000 in
theorem renamedAt_any (w : World) (b : Nat) (t f : List Int) (k : Nat) (vss : List (List Int)) (hv : Volt t f k vss) (h : VAt w b t f k vss) (d : Nat) (hd : d < f.length) (E : Option Addr) (ec : Nat) (bs : List Int) (he : Rd w E k bs) (hbs : Vld bs) {nv : Int} (hnv : gi (vertL t) d = nv) :
    Calls Try.prog 72 #[.pointer (some ⟨b, 0, none⟩), .int .i64 d, .slice E k ec] w fun e w' => ∃ b', e = .returned (.pointer (some ⟨b', 0, none⟩)) ∧ VAt w' b' t f k (cjL (vertL t) f vss nv bs) ∧ Below w.heap.size w w' := by
  obtain ⟨n, hn⟩ : ∃ n, f.length = n := ⟨_, rfl⟩
  obtain ⟨A, c, A', c', lo, g, cg, hvb, hr1, hr2, hal⟩ := h.open_ hn
  have hn12 : n ≤ 12 := by rw [← hn]; exact hv.map.flip.2.1
  have hk1 := hv.one
  have hk6 := hv.six
  have htl : t.length = n := by rw [hv.map.len, hn]
  have hdn : d < n := by omega
  have HVL : Hid ((vertL t).length = n) := by rw [Hid, vertL_len, htl]
  have HDV : Hid (∀ j, j < n → Vld (dV f vss j) ∧ (dV f vss j).length = k) := fun j hj => hv.dV (by omega)
  have HBL : Hid (bs.length = k) := he.1
  have HBB : Hid ((backL bs).length = k) := by rw [Hid, backL_len]; exact he.1
  have HNN := Lib.hid hn; have HVO := Lib.hid hv; have HVB := Lib.hid hvb; have H1 := Lib.hid hr1; have H2 := Lib.hid hr2; have HAL := Lib.hid hal; have HE := Lib.hid he; have HBV := Lib.hid hbs; have HNV := Lib.hid hnv
  have hbl := hvb.lt
  have c3 := hvb.cell3; have c0 := hvb.at_.cell0; have c1 := hvb.at_.cell1
  clear hv h hd hn hvb hr1 hr2 hal he hbs htl hnv
  go_enter Try.func72, Try.ntmps72
  go_wp2_with (first
    | (go_at_call 101; (refine (vertexNumbers_at b A A' n n c c' t w HVB.out.at_ H1.out HVO.out.map.turn).mono ?_; rintro e w1 ⟨v, rfl, o, bl⟩; obtain ⟨A3, c3', rfl, -, -⟩ := o.form' HVL.out; have HRV := Lib.hid (o.rd HVL.out); have HLV : Hid (∀ ad : Addr, A3 = some ad → ad.block < w1.heap.size) := (fun ad e => (o.lt ad.block (by rw [e]; rfl)).2); have HB1 := Lib.hid bl; have hvb1 := HVB.out.below bl; have HVB1 := Lib.hid hvb1; have d3 := hvb1.cell3; have HAL1 := Lib.hid (HAL.out.below bl); clear o bl c0 c1 c3 hvb1))
    | (go_at_call 102; (refine (clone_perms w1 lo g n cg _ HAL1.out (by omega) (fun j hj => ⟨_, rfl, by have := (HDV.out j hj).2; omega⟩) HAL1.out.cap).mono ?_; rintro e w2 ⟨g2, c2, rfl, al, bl⟩; have HA2 := Lib.hid al; have HB2 := Lib.hid (HB1.out.trans (bl.mono HB1.out.size)); have hvb2 := HVB1.out.below bl; have HVB2 := Lib.hid hvb2; have e0 := hvb2.at_.cell0; have e1 := hvb2.at_.cell1; have HRV2 := Lib.hid (HRV.out.below bl); clear al bl d3 hvb2)))
  have hg2 : w1.heap.size ≤ g2 := HA2.out.lt.1
  have hw12 : w.heap.size ≤ w1.heap.size := HB1.out.size
  clear HAL HAL1 HVB HVB1 HRV
  go_loopw [9, 10, 26] (fun _ _ iv wr => ∃ x : Nat, x ≤ n ∧ iv = .int .i64 x ∧ Hid (Alg wr w1.heap.size g2 n c2 (fun j => some (if j < x then dC (vertL t) f nv bs (dV f vss j) j else dV f vss j))) ∧ Hid (w2.grownBy wr (some g2))) (fun _ _ iv _ => n - (intOf iv).toNat)
  case atStart => exact ⟨0, Nat.zero_le _, rfl, HA2.out.congr (fun j hj => by rw [if_neg (by omega)]), World.grownBy.refl _ _⟩
  case round =>
    clear e0 e1 HA2
    obtain ⟨x, hx, rfl, hal, hg⟩ := hrel
    have HBW : Hid (Below w.heap.size w wr) := HB2.out.grown hg.out HB2.out.size (fun q hq => by cases hq; omega)
    by_cases hlt : x < n
    · obtain ⟨y, hy, hyn, hgy⟩ := (HVO.out.map.flip.into HNN.out).nat (j := x) (by rw [HNN.out]; exact hlt)
      obtain ⟨adF, rfl, hcF⟩ := (H2.out.below HBW.out).at_ hlt
      rw [hy] at hcF
      have HRVr := Lib.hid (HRV2.out.kept_ hg.out (fun ad e h => by injection h with h; have := HLV.out ad e; omega))
      obtain ⟨ad3, rfl, hcx⟩ := HRVr.out.at_ hlt
      obtain ⟨_, e3, hcd⟩ := HRVr.out.at_ hdn
      injection e3 with e3; subst e3
      rw [HNV.out] at hcd
      obtain ⟨_, e3, hcy⟩ := HRVr.out.at_ hyn
      injection e3 with e3; subst e3
      obtain ⟨vx, hvx⟩ : ∃ vx, gi (vertL t) x = vx := ⟨_, rfl⟩
      obtain ⟨vy, hvy⟩ : ∃ vy, gi (vertL t) y = vy := ⟨_, rfl⟩
      rw [hvx] at hcx
      rw [hvy] at hcy
      have HVX := Lib.hid hvx; have HVY := Lib.hid hvy; have HGY := Lib.hid hgy
      clear hy hgy hvx hvy
      have HFX : Hid (dC (vertL t) f nv bs (dV f vss x) x = if vy = nv then mulL (if vx = nv then mulL (backL bs) (dV f vss x) else dV f vss x) bs else if vx = nv then mulL (backL bs) (dV f vss x) else dV f vss x) := by
        rw [Hid, dC, HGY.out, HVX.out, HVY.out]
      obtain ⟨a, ha⟩ : ∃ a, dV f vss x = a := ⟨_, rfl⟩
      have HAV := Lib.hid (HDV.out x hlt)
      rw [ha] at HFX HAV
      have HAX := Lib.hid ha; clear ha
      by_cases e1 : vx = nv
      · have hb1 : (vx == nv) = true := by simp [e1]
        have HE1 := Lib.hid e1; clear e1
        go_wp2_with fail
        go_quiet (fail)
        obtain ⟨Wd, hWd⟩ : ∃ Wd, wr.drewN nq = Wd := ⟨_, rfl⟩
        rw [hWd]
        have HGd : Hid (w2.grownBy Wd (some g2)) := hWd ▸ grownBy_trans hg.out (grown_of_below (below_drewN (Below.refl _ wr) nq))
        have HBd : Hid (Below w.heap.size w Wd) := hWd ▸ below_drewN HBW.out nq
        have HAd : Hid (Alg Wd w1.heap.size g2 n c2 _) := hWd ▸ hal.out.drewN nq
        obtain ⟨Ax, cx, hcx1, hrx⟩ := HAd.out.at_ hlt (p := a) (k := k) (by rw [if_neg (by omega), HAX.out]) HAV.out.2
        obtain ⟨v0, hv0, hf0⟩ := HAd.out.cell hlt
        have HRX := Lib.hid hrx
        have HEd := Lib.hid (HE.out.below HBd.out)
        clear hWd hcF hcx hcd hcy hb1 hrx
        go_wp2_with fail
        go_region_with (first
          | (go_at_call 92; (refine (back_any E k ec bs _ (HEd.out.drewN _) (by omega) HBV.out).mono ?_; rintro e w3 ⟨v, rfl, o, bl⟩; obtain ⟨Ab, cb, rfl, -, -⟩ := o.form' HBB.out; have BL : Hid (Below Wd.heap.size Wd w3) := Below.of_drewN bl; have HOB : Hid (Own w3 Wd.heap.size (.slice Ab k cb) (backL bs)) := o; clear o bl; have hcx3 := (BL.out.cell (World.block_lt_of_cell? Wd _ hcx1)).trans hcx1))
          | (go_at_call 94; (refine (then_any Ab Ax k k cb cx (backL bs) a _ (HOB.out.rd HBB.out) (HRX.out.below BL.out) (by omega) (by omega) ((backL_vld HBV.out).into HBB.out)).mono ?_; rintro e w4 ⟨v, rfl, o, bl⟩; obtain ⟨Am, cm, rfl, -, -⟩ := o.form' ((mulL_len _ _).trans HBB.out); have BL4 : Hid (Below w3.heap.size w3 w4) := bl; have HOM : Hid (Own w4 w3.heap.size (.slice Am k cm) (mulL (backL bs) a)) := o; clear o bl; obtain ⟨v4, hv4, hf4⟩ := ((HAd.out.below BL.out).below BL4.out).cell hlt)))
        all_goals
          have hp5 := ((HAd.out.below BL.out).below BL4.out).put (j := x) (k := k) (p := mulL (backL bs) a) (Ak := Am) (ck := cm) hlt ((mulL_len _ _).trans HBB.out) (HOM.out.rd ((mulL_len _ _).trans HBB.out)) (fun ad e' => by have := (HOM.out.lt ad.block (by rw [e']; rfl)).1; have := (HAd.out.below BL.out).lt.2; omega)
          obtain ⟨W5, hW5⟩ : ∃ W5, w4.setCell ⟨g2, x, none⟩ (.slice Am k cm) = W5 := ⟨_, rfl⟩
          rw [hW5] at hp5 ⊢
          have HP5 := Lib.hid hp5.1
          have HG5 : Hid (w2.grownBy W5 (some g2)) := grownBy_trans (grownBy_trans (grownBy_trans HGd.out (grown_of_below BL.out)) (grown_of_below BL4.out)) hp5.2
          have HB5 : Hid (Below w.heap.size w W5) := HB2.out.grown HG5.out HB2.out.size (fun q hq => by cases hq; omega)
          have HV5 : Hid (Vld (mulL (backL bs) a) ∧ (mulL (backL bs) a).length = k) := ⟨(backL_vld HBV.out).mulL HAV.out.1 (by rw [HBB.out, HAV.out.2]), (mulL_len _ _).trans HBB.out⟩
          clear hp5 hW5 hcx1 hcx3 hv0 hf0 hv4 hf4
          obtain ⟨_, e3, hcd5⟩ := (HRV2.out.kept_ HG5.out (fun ad e h => by injection h with h; have := HLV.out ad e; omega)).at_ hdn
          injection e3 with e3; subst e3
          rw [HNV.out] at hcd5
          obtain ⟨_, e3, hcy5⟩ := (HRV2.out.kept_ HG5.out (fun ad e h => by injection h with h; have := HLV.out ad e; omega)).at_ hyn
          injection e3 with e3; subst e3
          rw [HVY.out] at hcy5
          by_cases e2 : vy = nv
          · have hb2 : (vy == nv) = true := by simp [e2]
            have HFIN : Hid (dC (vertL t) f nv bs a x = mulL (mulL (backL bs) a) bs) := by rw [Hid, HFX.out, if_pos e2, if_pos HE1.out]
            clear e2
            go_wp2_with fail
            go_quiet (fail)
            obtain ⟨Wq, hWq⟩ : ∃ Wq, W5.drewN nq = Wq := ⟨_, rfl⟩
            rw [hWq]
            have HGq : Hid (w2.grownBy Wq (some g2)) := hWq ▸ grownBy_trans HG5.out (grown_of_below (below_drewN (Below.refl _ W5) nq))
            have HBq : Hid (Below w.heap.size w Wq) := hWq ▸ below_drewN HB5.out nq
            have HAq : Hid (Alg Wq w1.heap.size g2 n c2 _) := hWq ▸ HP5.out.drewN nq
            obtain ⟨Ay, cy, hcxq, hry⟩ := HAq.out.at_ hlt (p := mulL (backL bs) a) (k := k) (if_pos rfl) HV5.out.2
            have HRY := Lib.hid hry
            have HEq := Lib.hid (HE.out.below HBq.out)
            clear hWq hcd5 hcy5 hb2 hry
            go_wp2_with (go_at_call 94; refine (then_any Ay E k k cy ec (mulL (backL bs) a) bs Wq HRY.out HEq.out (by omega) (by omega) (HV5.out.1.into HV5.out.2)).mono ?_; rintro e w6 ⟨v, rfl, o, bl⟩; obtain ⟨An, cn, rfl, -, -⟩ := o.form' ((mulL_len _ _).trans HV5.out.2); have BL6 := Lib.hid bl; have HON := Lib.hid o; clear o bl; obtain ⟨v6, hv6, hf6⟩ := (HAq.out.below BL6.out).cell hlt; have hp6 := (HAq.out.below BL6.out).put (j := x) (k := k) (p := mulL (mulL (backL bs) a) bs) (Ak := An) (ck := cn) hlt ((mulL_len _ _).trans HV5.out.2) (HON.out.rd ((mulL_len _ _).trans HV5.out.2)) (fun ad e' => by have := (HON.out.lt ad.block (by rw [e']; rfl)).1; have := HAq.out.lt.2; omega); have HP6 := Lib.hid hp6; clear hp6)
            go_roundw
            case rel =>
              refine ⟨x + 1, by omega, by go_num, HP6.out.1.congr fun j hj => ?_, grownBy_trans (grownBy_trans HGq.out (grown_of_below BL6.out)) HP6.out.2⟩
              by_cases ej : j = x
              · rw [if_pos ej, ej, if_pos (by omega), HAX.out, HFIN.out]
              · first
                  | (rw [if_neg ej, if_neg ej])
                  | (rw [if_neg ej])
                by_cases h : j < x
                · rw [if_pos h, if_pos (by omega)]
                · rw [if_neg h, if_neg (by omega)]
            case measure => simp [intOf]; omega
          · have hb2 : (vy == nv) = false := by simp [e2]
            have HFIN : Hid (dC (vertL t) f nv bs a x = mulL (backL bs) a) := by rw [Hid, HFX.out, if_neg e2, if_pos HE1.out]
            clear e2
            go_wp2_with fail
            go_quiet (fail)
            go_wp2_with fail
            go_roundw
            case rel =>
              refine ⟨x + 1, by omega, by go_num, (HP5.out.drewN _).congr fun j hj => ?_, grownBy_trans HG5.out (grown_of_below (below_drewN (Below.refl _ W5) _))⟩
              by_cases ej : j = x
              · rw [if_pos ej, ej, if_pos (by omega), HAX.out, HFIN.out]
              · first
                  | (rw [if_neg ej, if_neg ej])
                  | (rw [if_neg ej])
                by_cases h : j < x
                · rw [if_pos h, if_pos (by omega)]
                · rw [if_neg h, if_neg (by omega)]
            case measure => simp [intOf]; omega
      · have hb1 : (vx == nv) = false := by simp [e1]
        have HE1 := Lib.hid e1; clear e1
        go_wp2_with fail
        go_quiet (fail)
        obtain ⟨W5, hWd⟩ : ∃ Wd, wr.drewN nq = Wd := ⟨_, rfl⟩
        rw [hWd]
        have HG5 : Hid (w2.grownBy W5 (some g2)) := hWd ▸ grownBy_trans hg.out (grown_of_below (below_drewN (Below.refl _ wr) nq))
        have HB5 : Hid (Below w.heap.size w W5) := hWd ▸ below_drewN HBW.out nq
        have HP5 : Hid (Alg W5 w1.heap.size g2 n c2 _) := hWd ▸ hal.out.drewN nq
        have HV5 := HAV
        clear hWd hcF hcx hcd hcy hb1
        go_wp2_with fail
        obtain ⟨_, e3, hcd5⟩ := (HRV2.out.kept_ HG5.out (fun ad e h => by injection h with h; have := HLV.out ad e; omega)).at_ hdn
        injection e3 with e3; subst e3
        rw [HNV.out] at hcd5
        obtain ⟨_, e3, hcy5⟩ := (HRV2.out.kept_ HG5.out (fun ad e h => by injection h with h; have := HLV.out ad e; omega)).at_ hyn
        injection e3 with e3; subst e3
        rw [HVY.out] at hcy5
        by_cases e2 : vy = nv
        · have hb2 : (vy == nv) = true := by simp [e2]
          have HFIN : Hid (dC (vertL t) f nv bs a x = mulL (a) bs) := by rw [Hid, HFX.out, if_pos e2, if_neg HE1.out]
          clear e2
          go_wp2_with fail
          go_quiet (fail)
          obtain ⟨Wq, hWq⟩ : ∃ Wq, W5.drewN nq = Wq := ⟨_, rfl⟩
          rw [hWq]
          have HGq : Hid (w2.grownBy Wq (some g2)) := hWq ▸ grownBy_trans HG5.out (grown_of_below (below_drewN (Below.refl _ W5) nq))
          have HBq : Hid (Below w.heap.size w Wq) := hWq ▸ below_drewN HB5.out nq
          have HAq : Hid (Alg Wq w1.heap.size g2 n c2 _) := hWq ▸ HP5.out.drewN nq
          obtain ⟨Ay, cy, hcxq, hry⟩ := HAq.out.at_ hlt (p := a) (k := k) (by rw [if_neg (by omega), HAX.out]) HV5.out.2
          have HRY := Lib.hid hry
          have HEq := Lib.hid (HE.out.below HBq.out)
          clear hWq hcd5 hcy5 hb2 hry
          go_wp2_with (go_at_call 94; refine (then_any Ay E k k cy ec (a) bs Wq HRY.out HEq.out (by omega) (by omega) (HV5.out.1.into HV5.out.2)).mono ?_; rintro e w6 ⟨v, rfl, o, bl⟩; obtain ⟨An, cn, rfl, -, -⟩ := o.form' ((mulL_len _ _).trans HV5.out.2); have BL6 := Lib.hid bl; have HON := Lib.hid o; clear o bl; obtain ⟨v6, hv6, hf6⟩ := (HAq.out.below BL6.out).cell hlt; have hp6 := (HAq.out.below BL6.out).put (j := x) (k := k) (p := mulL (a) bs) (Ak := An) (ck := cn) hlt ((mulL_len _ _).trans HV5.out.2) (HON.out.rd ((mulL_len _ _).trans HV5.out.2)) (fun ad e' => by have := (HON.out.lt ad.block (by rw [e']; rfl)).1; have := HAq.out.lt.2; omega); have HP6 := Lib.hid hp6; clear hp6)
          go_roundw
          case rel =>
            refine ⟨x + 1, by omega, by go_num, HP6.out.1.congr fun j hj => ?_, grownBy_trans (grownBy_trans HGq.out (grown_of_below BL6.out)) HP6.out.2⟩
            by_cases ej : j = x
            · rw [if_pos ej, ej, if_pos (by omega), HAX.out, HFIN.out]
            · try rw [if_neg ej]
              by_cases h : j < x
              · rw [if_pos h, if_pos (by omega)]
              · rw [if_neg h, if_neg (by omega)]
          case measure => simp [intOf]; omega
        · have hb2 : (vy == nv) = false := by simp [e2]
          have HFIN : Hid (dC (vertL t) f nv bs a x = a) := by rw [Hid, HFX.out, if_neg e2, if_neg HE1.out]
          clear e2
          go_wp2_with fail
          go_quiet (fail)
          go_wp2_with fail
          go_roundw
          case rel =>
            refine ⟨x + 1, by omega, by go_num, (HP5.out.drewN _).congr fun j hj => ?_, grownBy_trans HG5.out (grown_of_below (below_drewN (Below.refl _ W5) _))⟩
            by_cases ej : j = x
            · rw [ej, if_neg (by omega), if_pos (by omega), HAX.out, HFIN.out]
            · try rw [if_neg ej]
              by_cases h : j < x
              · rw [if_pos h, if_pos (by omega)]
              · rw [if_neg h, if_neg (by omega)]
          case measure => simp [intOf]; omega
    · obtain rfl : x = n := by omega
      have hvbr := HVB2.out.kept_ hg.out (fun h => by injection h with h; omega)
      have HVBr := Lib.hid hvbr
      have e0 := hvbr.at_.cell0; have e1 := hvbr.at_.cell1; have e2 := hvbr.cell2
      have HEND : Hid (∀ j, j < x → some (if j < x then dC (vertL t) f nv bs (dV f vss j) j else dV f vss j) = some (dV f (cjL (vertL t) f vss nv bs) j)) := fun j hj => by
        rw [if_pos hj, dV_cj HVO.out HBV.out HBL.out (by rw [HNN.out]; exact hj)]
      have HAB : Hid (Below wr.heap.size wr (wr.alloc (.cells #[.slice A x c, .slice A' x c', .int .i64 k, .slice (some ⟨g2, 0, none⟩) x c2] 87))) := (Below.refl _ _).alloc (Nat.le_refl _) _
      have HBX : Hid (VBox (wr.alloc (.cells #[.slice A x c, .slice A' x c', .int .i64 k, .slice (some ⟨g2, 0, none⟩) x c2] 87)) wr.heap.size A x c A' x c' k g2 c2) := heap_alloc_new wr _
      have HVF : Hid (VAt (wr.alloc (.cells #[.slice A x c, .slice A' x c', .int .i64 k, .slice (some ⟨g2, 0, none⟩) x c2] 87)) wr.heap.size t f k (cjL (vertL t) f vss nv bs)) :=
        VAt.of_ HNN.out HBX.out ((H1.out.below HBW.out).below HAB.out) ((H2.out.below HBW.out).below HAB.out) ((hal.out.below HAB.out).congr HEND.out)
      have HBF := Lib.hid (HBW.out.trans (HAB.out.mono HBW.out.size))
      clear hvbr
      go_wp2_with fail
      go_region
      all_goals
        go_wp2_with fail
        go_ret
        exact ⟨_, rfl, HVF.out, ⟨HBF.out.os, HBF.out.tape, HBF.out.output, HBF.out.size, HBF.out.block⟩⟩

end Go.Proofs.Ythcdhkelpepeeaa

namespace Go.Proofs.Ythcdhkelpepeeaa
open Go.RowKit
set_option linter.unusedVariables false

noncomputable def cvjR (t f : List Int) (k : Int) (vss : List (List Int)) (d : Int) (b : List Int) : Bool × List (List Int) :=
  if vvB t f k vss = true ∧ dartB t.length d = true ∧ vld b = true ∧ (b.length : Int) = k then (true, cjL (vertL t) f vss (gi (vertL t) d.toNat) b) else (false, [])
theorem Volt.few_total {t f : List Int} {k : Nat} {vss : List (List Int)} (h : Volt t f k vss) : vss.length ≤ 6 ∧ total vss ≤ 36 := by
  have h1 := h.len
  have h2 := h.map.flip.2.1
  have h3 := h.six
  have := total_le (b := 6) (xss := vss) fun j hj => by have := (h.row j hj).2; omega
  omega
theorem cvjR_len {t f : List Int} {k d : Int} {vss ys : List (List Int)} {b : List Int} {ok : Bool} (h : cvjR t f k vss d b = (ok, ys)) : ys.length ≤ 12 ∧ total ys ≤ 100 := by
  unfold cvjR at h
  split at h
  · rename_i hc
    obtain ⟨kn, rfl, hv⟩ := Volt_of hc.1
    simp only [Prod.mk.injEq] at h
    have := (hv.cj (V := vertL t) (nv := gi (vertL t) d.toNat) (b := b) (Vld_of hc.2.2.1) (by have := hc.2.2.2; omega)).few_total
    rw [h.2] at this
    omega
  · simp only [Prod.mk.injEq] at h
    rw [← h.2]; simp [total]

set_option maxRecDepth 20000 in
set_option maxHeartbeats 3200000 in
theorem lists_any (w : World) (b : Nat) (t f : List Int) (k : Nat) (vss : List (List Int)) (hv : Volt t f k vss) (h : VAt w b t f k vss) :
    Calls Try.prog 73 #[.pointer (some ⟨b, 0, none⟩)] w fun e w' => ∃ v, e = .returned v ∧ OwnSS w' w.heap.size w'.heap.size v vss ∧ Below w.heap.size w w' := by
  obtain ⟨i1, hinf1, hy0, hy1, hy2⟩ := info_parts info_slice
  obtain ⟨n, hn⟩ : ∃ n, f.length = n := ⟨_, rfl⟩
  obtain ⟨h2, hh2⟩ : ∃ h2, n / 2 = h2 := ⟨_, rfl⟩
  obtain ⟨A, c, A', c', lo, g, cg, hvb, hr1, hr2, hal⟩ := h.open_ hn
  have hn12 : n ≤ 12 := by rw [← hn]; exact hv.map.flip.2.1
  have hk1 := hv.one
  have hk6 := hv.six
  have hh6 : h2 ≤ 6 := by omega
  have HLES : Hid ((lesPre f n).length = h2) := by
    rw [Hid, lesPre_len, ← hh2]; have := lesN_half hv.map.flip hv.map.paired; rw [hn] at this; omega
  have HLEN : Hid (vss.length = h2) := by rw [Hid, hv.len, hn, hh2]
  have HNN := Lib.hid hn; have HHH := Lib.hid hh2; have HVO := Lib.hid hv; have HVB := Lib.hid hvb; have H1 := Lib.hid hr1; have H2 := Lib.hid hr2; have HAL := Lib.hid hal
  clear hv h hn hh2 hvb hr1 hr2 hal
  go_enter Try.func73, Try.ntmps73
  go_wp2_with (go_at_call 91; refine (lesserDarts_at b A A' n n c c' f w HVB.out.at_ H2.out HVO.out.map.flip).mono ?_; rintro e w1 ⟨v, rfl, o, bl⟩; obtain ⟨A3, c3, rfl, -, -⟩ := o.form' HLES.out; have HRL := Lib.hid (o.rd HLES.out); have HB1 := Lib.hid bl; have HVB1 := Lib.hid (HVB.out.below bl); have HAL1 := Lib.hid (HAL.out.below bl); clear o bl)
  have hw1 := HB1.out.size
  go_loopw [3, 5, 11] (fun ov _ ev wr => ∃ e : Nat, e ≤ h2 ∧ ev = .int .i64 e ∧ Hid (OwnSS wr w1.heap.size wr.heap.size ov (vss.take e)) ∧ Hid (Below w1.heap.size w1 wr)) (fun _ _ ev _ => h2 - (intOf ev).toNat)
  case atStart => exact ⟨0, Nat.zero_le _, rfl, by rw [List.take_zero]; exact OwnSS.nil_, Below.refl _ _⟩
  case round =>
    obtain ⟨e, he, rfl, ho, hb⟩ := hrel
    have hwr := hb.out.size
    by_cases hlt : e < h2
    · obtain ⟨x1, x2, x3⟩ := lesD_spec HVO.out.map.flip HVO.out.map.paired (e := e) (by rw [HNN.out, HHH.out]; exact hlt)
      obtain ⟨x, hxx⟩ : ∃ x, lesD f e = x := ⟨_, rfl⟩
      rw [hxx] at x1 x2 x3
      have hle := lesPre_at x2 (k := n) (by rw [← HNN.out]; exact x1)
      rw [x3] at hle
      obtain ⟨ad, rfl, hc⟩ := (HRL.out.below hb.out).at_ hlt
      rw [hle] at hc
      have hxn : x < n := by rw [← HNN.out]; exact x1
      have hdx : dV f vss x = vss.getD e [] := by rw [dV_less x2, x3]
      obtain ⟨a, ha⟩ : ∃ a, vss.getD e [] = a := ⟨_, rfl⟩
      rw [ha] at hdx
      have hrow := HVO.out.row e (by rw [HLEN.out]; exact hlt)
      rw [ha] at hrow
      obtain ⟨Ax, cx, hcx0, hrx⟩ := (HAL1.out.below hb.out).at_ hxn (p := a) (by rw [hdx]) hrow.2
      have c3' := (HVB1.out.below hb.out).cell3
      have HTK : Hid (vss.take (e + 1) = vss.take e ++ [a]) := takeR_one (by rw [HLEN.out]; exact hlt) ha
      have HTL : Hid ((vss.take e).length = e) := takeR_len HLEN.out (by omega)
      have HRX := Lib.hid hrx; have HLA := Lib.hid hrow.2
      clear hle hxx x1 x2 x3 hdx ha hrow hrx
      go_wp2_with (first
        | (go_at_call 103; refine (clone_perm Ax k cx a wr HRX.out (by omega) (by omega)).mono ?_; rintro e' w2 ⟨u, rfl, o, b⟩; obtain ⟨Au, cu, rfl, -, -⟩ := o.form' HLA.out; obtain ⟨vs, hop⟩ := (ho.out.below b).opn; have HOP := Lib.hid hop; have HROW := Lib.hid (hop.row HTL.out); have HU := Lib.hid o; have HB2 := Lib.hid b; have hws2 := b.size; clear o b hop)
        | (at_builtin; refine wpList_append_own _ rfl _ _ 25 rfl w1.heap.size 22 i1 (.slice none 0 0) 1 24 Try.underlying25 hinf1 hy0 hy1 hy2 rfl (by decide) _ _ _ rfl (HROW.out.alloc _) ⟨w2.heap.size, 0, none⟩ 1 1 [.slice Au k cu] rfl rfl (cell_one_new _ _ _) (by intro u hu; simp at hu; subst hu; rfl) (by unfold maxLen; omega) (by omega) (by simp; omega) ?_; intro v3 w3 hown3 hgrow3 _; have HO3 := Lib.hid hown3; have HG3 := Lib.hid hgrow3; clear hown3 hgrow3))
      go_roundw
      case rel =>
        have ha := app_row hwr HTL.out HOP.out HB2.out HU.out HO3.out HG3.out
        exact ⟨e + 1, by omega, by go_num, by rw [Hid, HTK.out]; exact ha.1, hb.out.trans ha.2⟩
      case measure => simp [intOf]; omega
    · obtain rfl : e = h2 := by omega
      go_wp2_with fail
      go_ret
      refine ⟨_, rfl, ?_, HB1.out.trans (hb.out.mono hw1)⟩
      have := ho.out.mono hw1
      rwa [List.take_of_length_le (by rw [HLEN.out]; exact Nat.le_refl _)] at this

set_option maxRecDepth 20000 in
set_option maxHeartbeats 3200000 in
theorem impl_cvjR (w : World) (A A' : Option Addr) (n n' c c' : Nat) (t f : List Int) (h : Rd w A n t) (h' : Rd w A' n' f) (hn : n ≤ 1048576) (hn' : n' ≤ 1048576) (k : Int) (B : Option Addr) (m d : Nat) (vss : List (List Int)) (hs : RdSS w B m vss) (hm : m ≤ 1048576) (htot : total vss ≤ 1048576) (x : Int) (E : Option Addr) (ec en : Nat) (bs : List Int) (he : Rd w E en bs) (hen : en ≤ 1048576) {ok : Bool} {ys : List (List Int)} (hR : cvjR t f k vss x bs = (ok, ys)) :
    Calls Try.prog 40 #[.agg #[.slice A n c, .slice A' n' c'], .int .i64 k, .slice B m d, .int .i64 x, .slice E en ec] w fun e w' => ∃ v, e = .returned (.tuple #[v, .bool ok]) ∧ OwnSS w' w.heap.size w'.heap.size v ys ∧ Below w.heap.size w w' := by
  obtain ⟨W0, hW0, hx, hb, hz⟩ := Box.local_ w 29 (.slice A n c) (.slice A' n' c')
  have c0 := hx.cell0
  have c1 := hx.cell1
  have HX := Lib.hid hx; have HB := Lib.hid hb; have H := Lib.hid h; have H' := Lib.hid h'; have HR := Lib.hid hR; have HS := Lib.hid hs; have HE := Lib.hid he; have HEL := Lib.hid he.1
  clear hx hb h h' hR hs hz he
  cases hv : vvB t f k vss with
  | false =>
    have HF : Hid (cvjR t f k vss x bs = (false, [])) := by rw [Hid, cvjR, if_neg (fun h => by rw [hv] at h; exact absurd h.1 (by decide))]
    obtain ⟨rfl, rfl⟩ : ok = false ∧ ys = [] := by have := HR.out; rw [HF.out] at this; simpa [eq_comm] using this
    have HV := Lib.hid hv; clear hv
    go_enter Try.func40, Try.ntmps40
    go_wp2_with (go_at_call 54; refine (voltageOf_any _ A A' n n' c c' t f (H.out.below HB.out) (H'.out.below HB.out) hn hn' k B m d vss (HS.out.below HB.out) hm htot HV.out).mono ?_; rintro e w1 ⟨p, rfl, b, -⟩; have HB1 := Lib.hid (HB.out.trans (b.mono HB.out.size)); clear b c0 c1)
    go_ret2
    exact ⟨_, rfl, OwnSS.nil_, HB1.out⟩
  | true =>
    have HV := Lib.hid hv
    obtain ⟨kn, rfl, hvt⟩ := Volt_of hv
    have hn2 : n' = n := by rw [← H.out.1, ← H'.out.1]; exact hvt.map.len.symm
    subst hn2
    have hn12 : n' ≤ 12 := by rw [← H.out.1]; exact hvt.map.turn.2.1
    cases hd : dartB n' x with
    | false =>
      have HF : Hid (cvjR t f (kn : Int) vss x bs = (false, [])) := by rw [Hid, cvjR, if_neg (fun h => by have := h.2.1; rw [H.out.1, hd] at this; exact absurd this (by decide))]
      obtain ⟨rfl, rfl⟩ : ok = false ∧ ys = [] := by have := HR.out; rw [HF.out] at this; simpa [eq_comm] using this
      have HD := Lib.hid hd; clear hd hv hvt
      go_enter Try.func40, Try.ntmps40
      go_wp2_with (first
        | (go_at_call 54; refine (voltageOf_any _ A A' n' n' c c' t f (H.out.below HB.out) (H'.out.below HB.out) hn hn' (kn : Int) B m d vss (HS.out.below HB.out) hm htot HV.out).mono ?_; rintro e w1 ⟨p, rfl, b, -⟩; have HX1 := Lib.hid (HX.out.below b); have HB1 := Lib.hid (HB.out.trans (b.mono HB.out.size)); clear b c0 c1)
        | (go_at_call 70; refine (hasDart_lit w1 w.heap.size A A' n' n' c c' HX1.out x HD.out).mono ?_; rintro e w2 ⟨rfl, rfl⟩))
      go_ret2
      exact ⟨_, rfl, OwnSS.nil_, HB1.out⟩
    | true =>
      have HD := Lib.hid hd
      obtain ⟨q, hq⟩ : ∃ q, (vld bs && ((en : Int) == (kn : Int))) = q := ⟨_, rfl⟩
      have HQ := Lib.hid hq
      cases q with
      | false =>
        have HF : Hid (cvjR t f (kn : Int) vss x bs = (false, [])) := by
          rw [Hid, cvjR, if_neg (fun h => by
            rw [h.2.2.1, Bool.true_and] at hq
            have := h.2.2.2; rw [HEL.out] at this
            simp [this] at hq)]
        obtain ⟨rfl, rfl⟩ : ok = false ∧ ys = [] := by have := HR.out; rw [HF.out] at this; simpa [eq_comm] using this
        clear hv hq hvt hd
        go_enter Try.func40, Try.ntmps40
        go_wp2_with (first
          | (go_at_call 54; refine (voltageOf_any _ A A' n' n' c c' t f (H.out.below HB.out) (H'.out.below HB.out) hn hn' (kn : Int) B m d vss (HS.out.below HB.out) hm htot HV.out).mono ?_; rintro e w1 ⟨p, rfl, b, -⟩; have HX1 := Lib.hid (HX.out.below b); have HB1 := Lib.hid (HB.out.trans (b.mono HB.out.size)); clear b c0 c1)
          | (go_at_call 70; refine (hasDart_lit w1 w.heap.size A A' n' n' c c' HX1.out x HD.out).mono ?_; rintro e w2 ⟨rfl, rfl⟩)
          | (go_at_call 71; refine (sheetsPerm_any E en ec bs (kn : Int) w1 (HE.out.below HB1.out) hen HQ.out).mono ?_; rintro e w2 ⟨rfl, b⟩; have HB2 := Lib.hid (HB1.out.trans (b.mono HB1.out.size)); clear b))
        go_ret2
        exact ⟨_, rfl, OwnSS.nil_, HB2.out⟩
      | true =>
        obtain ⟨hp, hl⟩ : vld bs = true ∧ (en : Int) = (kn : Int) := by simpa [Bool.and_eq_true] using hq
        obtain rfl : en = kn := by omega
        obtain ⟨hx0, hx1⟩ : 0 ≤ x ∧ x < n' := by simpa [dartB] using hd
        obtain ⟨xn, rfl⟩ : ∃ xn : Nat, x = xn := ⟨x.toNat, by omega⟩
        have hxn : xn < f.length := by rw [H'.out.1]; omega
        obtain ⟨nv, hnv⟩ : ∃ nv, gi (vertL t) xn = nv := ⟨_, rfl⟩
        have HF : Hid (cvjR t f (en : Int) vss (xn : Int) bs = (true, cjL (vertL t) f vss nv bs)) := by rw [Hid, cvjR, if_pos ⟨hv, by rw [H.out.1]; exact hd, hp, by rw [HEL.out]⟩, Int.toNat_natCast, hnv]
        obtain ⟨rfl, rfl⟩ : ok = true ∧ ys = cjL (vertL t) f vss nv bs := by have := HR.out; rw [HF.out] at this; simpa [eq_comm] using this
        have HBS := Lib.hid (Vld_of hp); have HVT := Lib.hid hvt; have HNV := Lib.hid hnv; have HXN := Lib.hid hxn
        have HVJ := Lib.hid (hvt.cj (V := vertL t) (nv := nv) (Vld_of hp) HEL.out)
        clear hv hp hvt hq hl hd hnv hx0 hx1 hxn
        go_enter Try.func40, Try.ntmps40
        go_wp2_with (first
          | (go_at_call 54; refine (voltageOf_any _ A A' n' n' c c' t f (H.out.below HB.out) (H'.out.below HB.out) hn hn' (en : Int) B m d vss (HS.out.below HB.out) hm htot HV.out).mono ?_; rintro e w1 ⟨p, rfl, b, hva⟩; obtain ⟨bv, kn, rfl, hkn, hva⟩ := hva rfl; obtain rfl : en = kn := (by omega); have HVA := Lib.hid hva; have HX1 := Lib.hid (HX.out.below b); have HB1 := Lib.hid (HB.out.trans (b.mono HB.out.size)); clear b c0 c1 hva hkn)
          | (go_at_call 70; refine (hasDart_lit w1 w.heap.size A A' n' n' c c' HX1.out (xn : Int) HD.out).mono ?_; rintro e w2 ⟨rfl, rfl⟩)
          | (go_at_call 71; refine (sheetsPerm_any E en ec bs (en : Int) w1 (HE.out.below HB1.out) hen HQ.out).mono ?_; rintro e w2 ⟨rfl, b⟩; have HB2 := Lib.hid (HB1.out.trans (b.mono HB1.out.size)); have HVA2 := Lib.hid (HVA.out.below b); clear b)
          | (go_at_call 72; refine (renamedAt_any w2 bv t f en vss HVT.out HVA2.out xn HXN.out E ec bs (HE.out.below HB2.out) HBS.out HNV.out).mono ?_; rintro e w3 ⟨b3, rfl, va, b⟩; have HVA3 := Lib.hid va; have HB3 := Lib.hid (HB2.out.trans (b.mono HB2.out.size)); clear va b)
          | (go_at_call 73; refine (lists_any w3 b3 t f en _ HVJ.out HVA3.out).mono ?_; rintro e w4 ⟨v, rfl, o, b⟩; have HO4 := Lib.hid o; have HB4 := Lib.hid (HB3.out.trans (b.mono HB3.out.size)); clear o b))
        go_ret2
        exact ⟨_, rfl, HO4.out.mono HB3.out.size, HB4.out⟩

end Go.Proofs.Ythcdhkelpepeeaa

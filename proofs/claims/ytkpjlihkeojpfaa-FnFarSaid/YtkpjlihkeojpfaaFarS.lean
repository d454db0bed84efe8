/-
  Distances, the model's: rounds of relaxing.
-/
import Derived.Test.YtkpjlihkeojpfaaFarP
import Derived.Test.YtkpjlihkeojpfaaMaps
import Derived.Test.YtkpjlihkeojpfaaSeen
import Derived.StillTailTactics
namespace Go.Proofs.Ytkpjlihkeojpfaa
open Go.RowKit

structure RS (w : World) (A A' : Option Addr) (n c c' g : Nat) (wr : World) (zs : List Int) : Prop where
  own : Own wr (w.heap.size + 1) (.slice (some ⟨g, 0, none⟩) n n) zs
  below : Below w.heap.size w wr
  box : Box2 wr w.heap.size A n c A' n c'
theorem RS.set {w wr : World} {A A' : Option Addr} {n c c' g : Nat} {zs : List Int} (h : RS w A A' n c c' g wr zs) (hl : zs.length = n) (k : Nat) (u : Int) : RS w A A' n c c' g (wr.setCell ⟨g, k, none⟩ (.int .i64 u)) (zs.set k u) := by
  have hg := (h.own.lt g rfl).1
  exact ⟨(h.own.stored hl k u).1, h.below.setCell (p := ⟨g, k, none⟩) (by show w.heap.size ≤ g; omega) _, (Below.heap_setCell wr ⟨g, k, none⟩ _ w.heap.size (by show w.heap.size ≠ g; omega)).trans h.box⟩
theorem RS.drew {w wr : World} {A A' : Option Addr} {n c c' g : Nat} {zs : List Int} (h : RS w A A' n c c' g wr zs) : RS w A A' n c c' g wr.drew zs :=
  ⟨h.own.drewN 1, below_drewN h.below 1, h.box⟩

set_option maxRecDepth 20000 in
set_option maxHeartbeats 3200000 in
theorem l2Fars_any (A A' : Option Addr) (n c c' : Nat) (t f : List Int) (w : World) (h : Rd w A n t) (h' : Rd w A' n f) (hm : IsMap t f) (x0 : Nat) (hx0 : x0 < n) :
    Calls Try.prog 15 #[.agg #[.slice A n c, .slice A' n c'], .int .i64 x0] w fun e w' => ∃ v, e = .returned v ∧ Own w' w.heap.size v (farL t f x0) ∧ Below w.heap.size w w' := by
  obtain ⟨i0, hinf, hz0, hz1, hz2⟩ := info_parts info_int
  have hn12 : n ≤ 12 := by rw [← h.1]; exact hm.turn.2.1
  have hn1 : 1 ≤ n := by rw [← h.1]; exact hm.turn.1
  obtain ⟨W0, hW0⟩ : ∃ W0, w.alloc (.cells #[.slice A n c, .slice A' n c'] 25) = W0 := ⟨_, rfl⟩
  have hx : Box2 W0 w.heap.size A n c A' n c' := by rw [← hW0]; exact Box2.new w _ _ _ _ _ _
  have hs0 : W0.heap.size = w.heap.size + 1 := by rw [← hW0, World.size_alloc]
  have hb : Below w.heap.size w W0 := by rw [← hW0]; exact (Below.refl _ _).alloc (Nat.le_refl _) _
  have c0 := hx.cell0
  have HX := Lib.hid hx; have HB := Lib.hid hb; have H := Lib.hid h; have H' := Lib.hid h'; have HM := Lib.hid hm; have HTL : Hid (t.length = n) := h.1; have HS0 := Lib.hid hs0
  clear hx hb h h' hm
  go_enter Try.func15, Try.ntmps15
  go_wp2_with (at_make; refine wpList_make_full _ rfl _ _ 23 rfl W0.heap.size 3 i0 (.int .i64 0) 1 Try.underlying23 hinf hz0 hz1 .i64 .i64 _ _ n rfl rfl rfl rfl (by rw [hz2]; omega) (by unfold maxLen; omega) (Nat.le_refl _) ?_; intro w1 hown1 hgrow1)
  have hb1 := Lib.hid (below_of_grown hgrow1 (Nat.le_refl _) (fun k hk => by cases hk))
  have ho1 := Lib.hid (Own.made hown1)
  have hrs : RS w A A' n c c' W0.heap.size w1 (List.replicate n 0) := ⟨by have := ho1.out; rw [HS0.out] at this ⊢; exact this, HB.out.trans (hb1.out.mono (by have := HS0.out; omega)), HX.out.below hb1.out⟩
  obtain ⟨g, hg⟩ : ∃ g, w.heap.size + 1 = g := ⟨_, rfl⟩
  rw [HS0.out, hg] at hrs
  rw [hg]
  have HRS := Lib.hid hrs
  clear hrs ho1 hb1 hown1 hgrow1 hz0 hz1 hz2 hinf c0 hW0
  go_loopw [6] (fun i wr => ∃ (k : Nat) (zs : List Int), k ≤ n ∧ i = .int .i64 k ∧ Hid (RS w A A' n c c' g wr zs) ∧ Hid (zs.length = n) ∧ Hid (∀ j, j < k → gi zs j = n)) (fun i _ => n - (intOf i).toNat)
  case atStart => exact ⟨0, _, Nat.zero_le _, rfl, HRS, by simp [Hid], fun j hj => absurd hj (by omega)⟩
  case round =>
    obtain ⟨k, zs, hk, rfl, ho, hzl, hall⟩ := hrel
    by_cases hlt : k < n
    · obtain ⟨_, e1, _, hc3, hf3⟩ := ho.out.own.cellAt hzl.out hlt
      simp only [Option.some.injEq, Addr.mk.injEq, and_true] at e1
      subst e1
      have HS := Lib.hid (ho.out.set hzl.out k (n : Int))
      go_wp2_with fail
      go_roundw
      case rel =>
        refine ⟨k + 1, _, by omega, by go_num, HS, by simpa [Hid] using hzl.out, fun j hj => ?_⟩
        rw [gi_set _ _ _ _ (by rw [hzl.out]; exact hlt)]
        by_cases e : j = k
        · rw [if_pos e]
        · rw [if_neg e]; exact hall.out j (by omega)
      case measure => simp [intOf]; omega
    · obtain rfl : k = n := by omega
      have hze : zs = List.replicate k (k : Int) := eq_of_gi (by rw [hzl.out]; simp) (fun j hj => by
        rw [hzl.out] at hj
        rw [hall.out j hj, gi_eq (by simpa using hj)]; simp)
      obtain ⟨_, e1, _, hc3, hf3⟩ := ho.out.own.cellAt hzl.out hx0
      simp only [Option.some.injEq, Addr.mk.injEq, and_true] at e1
      subst e1
      have HRL : Hid (Rel t f x0 0 (zs.set x0 0)) := Rel.start (by rw [HTL.out]; exact hx0) (by rw [HTL.out, ← hze])
      have HS := Lib.hid (ho.out.set hzl.out x0 0)
      clear hze hall HRS
      go_wp2_with fail
      go_loopw [7] (fun i wr => ∃ (R : Nat) (G : List Int), R ≤ 2 * k ∧ i = .int .i64 R ∧ Hid (RS w A A' k c c' g wr G) ∧ Hid (Rel t f x0 R G)) (fun i _ => 2 * k - (intOf i).toNat)
      case atStart => exact ⟨0, _, Nat.zero_le _, rfl, HS, HRL⟩
      case round =>
        clear ho hzl HS HRL hc3 hf3
        obtain ⟨R, G0, hR, rfl, hs0, hrl⟩ := hrel
        have h2k : IntKind.i64.wrap (2 * (k : Int)) = 2 * (k : Int) := IntWalk.i64_in _ (by omega)
        by_cases hRlt : R < 2 * k
        · have hRi : (R : Int) < 2 * (k : Int) := by omega
          go_wp2_with fail
          go_loopw [8] (fun i wr => ∃ (j : Nat) (G : List Int), j ≤ k ∧ i = .int .i64 j ∧ Hid (RS w A A' k c c' g wr G) ∧ Hid (RelI t f x0 G0 j G)) (fun i _ => k - (intOf i).toNat)
          case atStart => exact ⟨0, _, Nat.zero_le _, rfl, hs0, hrl.out.inner⟩
          case round =>
            clear hs0
            obtain ⟨j, G, hj, rfl, hs, hri⟩ := hrel
            by_cases hjk : j < k
            · have hgl : G.length = k := hri.out.len.trans HTL.out
              have hfl : f.length = k := H'.out.1
              obtain ⟨y, hy⟩ : ∃ y, gn f j = y := ⟨_, rfl⟩
              obtain ⟨x, hx⟩ : ∃ x, gn t j = x := ⟨_, rfl⟩
              have hyn : y < k := by rw [← hy, ← hfl]; exact HM.out.flip.gn_lt (by rw [hfl]; exact hjk)
              have hxn : x < k := by rw [← hx, ← HTL.out]; exact HM.out.turn.gn_lt (by rw [HTL.out]; exact hjk)
              have hgy : gi f j = (y : Int) := by rw [← hy]; exact HM.out.flip.gi_gn (by rw [hfl]; exact hjk)
              have hgx : gi t j = (x : Int) := by rw [← hx]; exact HM.out.turn.gi_gn (by rw [HTL.out]; exact hjk)
              obtain ⟨_, e1, _, hcj, hfj⟩ := hs.out.own.cellAt hgl hjk
              simp only [Option.some.injEq, Addr.mk.injEq, and_true] at e1
              subst e1
              obtain ⟨_, e1, _, hcy, -⟩ := hs.out.own.cellAt hgl hyn
              simp only [Option.some.injEq, Addr.mk.injEq, and_true] at e1
              subst e1
              have cx := hs.out.box.cell1
              obtain ⟨ad, e2, hcp⟩ := (H'.out.below hs.out.below).at_ hjk
              rw [show A' = some ad from e2] at cx; clear e2
              rw [hgy] at hcp
              have va := hri.out.in_ j (by rw [HTL.out]; exact hjk)
              have vb := hri.out.in_ y (by rw [HTL.out]; exact hyn)
              rw [HTL.out] at va vb
              obtain ⟨a, ha⟩ : ∃ a, gi G j = a := ⟨_, rfl⟩
              obtain ⟨b, hb⟩ : ∃ b, gi G y = b := ⟨_, rfl⟩
              rw [ha] at hcj va
              rw [hb] at hcy vb
              have hwb : IntKind.i64.wrap (b + 1) = b + 1 := IntWalk.i64_in _ (by omega)
              obtain ⟨u, hu⟩ : ∃ u, min a (b + 1) = u := ⟨_, rfl⟩
              have hs1 := hs.out.drew.set hgl j u
              have hg1l : (G.set j u).length = k := by rw [List.length_set]; exact hgl
              obtain ⟨W1, hW1⟩ : ∃ W1, wr.drew.setCell ⟨g, j, none⟩ (.int .i64 u) = W1 := ⟨_, rfl⟩
              rw [hW1] at hs1
              go_wp2_with fail
              go_still_tail 17, (by kernel_rfl)
              go_wp2_with fail
              obtain ⟨_, e1, _, hcj1, -⟩ := hs1.own.cellAt hg1l hjk
              simp only [Option.some.injEq, Addr.mk.injEq, and_true] at e1
              subst e1
              obtain ⟨_, e1, _, hcx1, hfx1⟩ := hs1.own.cellAt hg1l hxn
              simp only [Option.some.injEq, Addr.mk.injEq, and_true] at e1
              subst e1
              have cx1 := hs1.box.cell0
              obtain ⟨ad1, e3, hct1⟩ := (H.out.below hs1.below).at_ hjk
              rw [show A = some ad1 from e3] at cx1; clear e3
              rw [hgx] at hct1
              obtain ⟨a1, ha1⟩ : ∃ a1, gi (G.set j u) j = a1 := ⟨_, rfl⟩
              obtain ⟨b1, hb1⟩ : ∃ b1, gi (G.set j u) x = b1 := ⟨_, rfl⟩
              rw [ha1] at hcj1
              rw [hb1] at hcx1
              obtain ⟨u1, hu1⟩ : ∃ u1, min b1 a1 = u1 := ⟨_, rfl⟩
              have hs2 := hs1.drew.set hg1l x u1
              have HRI : Hid (RelI t f x0 G0 (j + 1) ((G.set j u).set x u1)) := by
                refine hri.out.step HM.out (by rw [HTL.out]; exact hjk) rfl ?_
                rw [hy, hx, ha, hb, hu, hb1, ha1, hu1]
              have HS2 := Lib.hid hs2
              clear hs2
              go_still_tail 20, (by kernel_rfl)
              go_wp2_with fail
              go_roundw
              case rel => exact ⟨j + 1, _, by omega, by go_num, HS2, HRI⟩
              case measure => simp [intOf]; omega
            · obtain rfl : j = k := by omega
              have HRO : Hid (Rel t f x0 (R + 1) G) := by
                have h1 := hri.out
                rw [← HTL.out] at h1
                exact h1.outer hrl.out HM.out (by rw [HTL.out]; exact hx0)
              go_wp2_with fail
              go_roundw
              case rel => exact ⟨R + 1, _, by omega, by go_num, hs, HRO⟩
              case measure => simp [intOf]; omega
        · have hRe : R = 2 * k := by omega
          have hRi : ¬ ((R : Int) < 2 * (k : Int)) := by omega
          have hres : G0 = farL t f x0 := Rel.done (by rw [HTL.out, ← hRe]; exact hrl.out) HM.out (by rw [HTL.out]; exact hx0)
          go_wp2_with fail
          go_ret
          exact ⟨_, rfl, by rw [← hres]; exact hs0.out.own.mono (by omega), hs0.out.below⟩
end Go.Proofs.Ytkpjlihkeojpfaa

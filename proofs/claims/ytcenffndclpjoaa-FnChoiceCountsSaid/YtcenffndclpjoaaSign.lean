/-
  The model's l1Cycles, PermCycles and PermSign.
  The program's cycles, how many there are, and PermSign.
-/
import Derived.Test.YtcenffndclpjoaaSeen
import Derived.Test.YtcenffndclpjoaaIter
namespace Go.Proofs.Ytcenffndclpjoaa
open Go.RowKit

set_option maxHeartbeats 1600000 in
set_option maxRecDepth 100000 in
theorem l1Cycles_any (A : Option Addr) (n c : Nat) (p : List Int) (w : World) (h : Rd w A n p) (hp : Vld p) :
    Calls Try.prog 64 #[.slice A n c] w fun e w' => ∃ v, e = .returned v ∧ OwnSS w' w.heap.size w'.heap.size v (cyclesL p) ∧ Below w.heap.size w w' := by
  obtain ⟨i0, hinf, hz0, hz1, hz2⟩ := info_parts info_int
  obtain ⟨i1, hinf1, hy0, hy1, hy2⟩ := info_parts info_slice
  obtain ⟨i2, hinf2, hx0, hx1, hx2⟩ := info_parts info_bool
  have hpn := h.1
  have h12 : n ≤ 12 := by rw [← hpn]; exact hp.2.1
  have H := Lib.hid h; have HV := Lib.hid hp; have HI := Lib.hid (hp.into (m := n) hpn); have Hn := Lib.hid hpn; clear h hp hpn
  go_enter Try.func64, Try.ntmps64
  go_wp2_with (at_make; refine wpList_make_full _ rfl _ _ 97 rfl w.heap.size 4 i2 (.bool false) 1 Try.underlying97 hinf2 hx0 hx1 .i64 .i64 _ _ n rfl rfl rfl rfl (by rw [hx2]; omega) (by unfold maxLen; omega) (by simp) ?_; intro w1 hown1 hgrow1)
  have hs1 := SeenT.made hown1 rfl
  rw [World.size_alloc] at hs1
  have ho1 : OwnSS w1 w.heap.size (w.heap.size + 1) (.slice (some ⟨w.heap.size, 0, none⟩) 0 0) [] := (OwnSS.empty (Nat.le_refl _)).below ⟨hgrow1.os, hgrow1.tape, hgrow1.output, hgrow1.size, fun k hk => hgrow1.block k hk (by simp)⟩
  have hb1 : Below w.heap.size w w1 := ((Below.refl _ w).alloc (Nat.le_refl _) (.cells #[] 23)).grown hgrow1 (by simp) (fun k hk => by cases hk)
  have HS1 := Lib.hid hs1; have HO1 := Lib.hid ho1; have HB1 := Lib.hid hb1
  clear hown1 hgrow1 hs1 ho1 hb1
  clear hz0 hz1 hz2 hy0 hy1 hy2 hx0 hx1 hx2 hinf hinf1 hinf2
  obtain ⟨i0, hinf, hz0, hz1, hz2⟩ := info_parts info_int
  obtain ⟨i1, hinf1, hy0, hy1, hy2⟩ := info_parts info_slice
  go_loopw [3, 5] (fun v' iv wr => ∃ (v : Value) (i : Nat) (outs : List (List Int)) (vis : List Nat), v = v' ∧ iv = .int .i64 i ∧ i ≤ n ∧ Hid (Outer p n outs vis i) ∧ Hid (OwnSS wr w.heap.size wr.heap.size v outs) ∧ Hid (SeenT wr (w.heap.size + 1) 4 n vis) ∧ Hid (Below w.heap.size w wr)) (fun _ iv _ => n - (intOf iv).toNat)
  case atStart => exact ⟨_, 0, [], [], rfl, rfl, Nat.zero_le _, Outer.start Hn.out, HO1.out.more (Nat.le_of_lt HS1.out.lt), HS1, HB1⟩
  case round =>
    obtain ⟨v, i, outs, vis, rfl, rfl, hin, ho, hos, hse, hbe⟩ := hrel
    by_cases hlt : i < n
    · have hcs := hse.out.cell hlt
      by_cases hvi : i ∈ vis
      · rw [decide_eq_true hvi] at hcs
        go_wp2
        go_roundw
        case rel => exact ⟨_, i + 1, outs, vis, rfl, by go_num, by omega, ho.out.skip hlt hvi, hos, hse, hbe⟩
        case measure => simp [intOf]; omega
      · rw [decide_eq_false hvi] at hcs
        obtain ⟨ws, hws⟩ : ∃ ws : World, ws = wr.alloc (.cells #[] 3) := ⟨_, rfl⟩
        have hsz : wr.heap.size + 1 = ws.heap.size := by rw [hws]; simp
        have hbs : Below wr.heap.size wr ws := by rw [hws]; exact (Below.refl _ _).alloc (Nat.le_refl _) _
        have hoc : Own ws wr.heap.size (.slice (some ⟨wr.heap.size, 0, none⟩) 0 0) [] := by rw [hws]; exact Own.empty (Nat.le_refl _)
        have HBS := Lib.hid hbs; have HOC := Lib.hid hoc; have HSZ := Lib.hid hsz; have HWS := Lib.hid hws; clear hbs hoc hsz hws
        have HWR : Hid (w.heap.size ≤ wr.heap.size) := hbe.out.size
        have HSEs : Hid (SeenT ws (w.heap.size + 1) 4 n vis) := hse.out.same (HBS.out.block _ hse.out.lt)
        go_wp2
        rw [← HWS.out]
        go_loopw [6, 7] (fun cv' kv wx' => ∃ (wx : World) (cv : Value) (k : Nat) (acc : List Int) (vis' : List Nat), wx = wx' ∧ cv = cv' ∧ kv = .int .i64 k ∧ k < n ∧ acc.length ≤ 12 ∧ Hid (Inner p n vis i acc vis' k) ∧ Hid (wx.ownsRow wr.heap.size 3 1 cv acc.length (ints acc)) ∧ Hid (SeenT wx (w.heap.size + 1) 4 n vis') ∧ Hid (wr.grownBy wx (some (w.heap.size + 1)))) (fun _ _ wx => todo wx (w.heap.size + 1) 4 n)
        case atStart => exact ⟨_, _, i, [], vis, rfl, rfl, rfl, hlt, by simp, Inner.start ho.out.nodup ho.out.lt hlt, HOC, HSEs, by rw [HWS.out]; exact World.grownBy_alloc _ _ _⟩
        case round =>
          obtain ⟨wx, cv, k, acc, vis', rfl, rfl, rfl, hk, hacc, hinn, howc, hsx, hgx⟩ := hrel
          have hwx : wr.heap.size ≤ wx.heap.size := hgx.out.size
          have hck := hsx.out.cell hk
          have hfk := hsx.out.frozen k
          have hbx : Below w.heap.size w wx := hbe.out.grown hgx.out HWR.out (fun k hk => by cases hk; omega)
          have HBX := Lib.hid hbx; clear hbx
          by_cases hvk : k ∈ vis'
          · rw [decide_eq_true hvk] at hck
            have hos2 := (hos.out.marked hse.out (by decide) (by decide) hgx.out)
            obtain ⟨vs, hvl, hvo, hvr, hvd⟩ := hos2
            have hcv : Own wx wr.heap.size cv acc := howc.out
            have hcl := hcv.lt
            obtain ⟨Ac, cc, rfl, -, -⟩ := hcv.form
            have HCL := Lib.hid hcl; clear hcl
            have HCV := Lib.hid hcv; have HVL := Lib.hid hvl; have HVO := Lib.hid hvo; have HVR := Lib.hid hvr; have HVD := Lib.hid hvd; clear hcv hvl hvo hvr hvd
            have hfew := ho.out.few
            have HTK := Lib.hid (ho.out.take hlt h12 hvi hinn.out hvk)
            go_wp2_with (at_builtin; refine wpList_append_own _ rfl (.tmp 40) (.tmp 42) 61 rfl w.heap.size 23 i1 (.slice none 0 0) 1 24 Try.underlying61 hinf1 hy0 hy1 hy2 rfl (by decide) _ _ _ rfl (HVO.out.alloc _) ⟨wx.heap.size, 0, none⟩ 1 1 [.slice Ac acc.length cc] rfl rfl (cell_one_new _ _ _) (by intro u hu; simp at hu; subst hu; rfl) (by unfold maxLen; omega) (by omega) (by simp; have := HWR.out; omega) ?_; intro v2 w2 hown2 hgrow2 _)
            have HO2 := Lib.hid hown2; have HG2 := Lib.hid hgrow2; clear hown2 hgrow2
            go_wp2
            go_roundw
            case rel =>
              have hba : Below wx.heap.size wx (wx.alloc (.cells #[.slice Ac acc.length cc] 23)) := (Below.refl _ _).alloc (Nat.le_refl _) _
              have hsz2 := HG2.out.size
              rw [World.size_alloc] at hsz2
              refine ⟨_, i + 1, outs ++ [acc], vis', rfl, by go_num, by omega, HTK.out, ?_, ?_, ?_⟩
              · exact OwnSS.snoc (hi := wr.heap.size) HVL.out (fun j hj => ⟨(HVR.out j hj).1.below hba, (HVR.out j hj).2⟩) HVD.out (HVO.out.alloc _) ((HCV.out.below hba).mono HWR.out) (fun k hk => (HCL.out k hk).1) (by omega) (fun k hk => by have := (HCL.out k hk).2; omega) HO2.out HG2.out
              · exact (hsx.out.alloc _).grown HG2.out (own_ne_seen HVO.out hsx.out (by decide))
              · exact (HBX.out.alloc (by have := HWR.out; omega) _).grown HG2.out (by simp; have := HWR.out; omega) (fun k hk => (HVO.out.lt k hk).1)
            case measure => simp [intOf]; omega
          · rw [decide_eq_false hvk] at hck
            have HST := Lib.hid (hinn.out.step HV.out Hn.out hvk)
            obtain ⟨ad, rfl, hpc⟩ := H.out.at_ hk
            have HOW : Hid ((wx.setCell ⟨w.heap.size + 1, k, none⟩ (.bool true)).ownsRow wr.heap.size 3 1 cv acc.length (ints acc)) := howc.out.kept (grown_set _ _ _ _) (.inr (own_ne_seen howc.out hsx.out (by decide)))
            have hxg := HV.out.gi_gn (j := k) (by rw [Hn.out]; exact hk)
            rw [hxg] at hpc
            have HPC := Lib.hid hpc; have HXG := Lib.hid hxg; clear hpc hxg
            have hsw := HWR.out
            have hpb : (ad.add k).block < w.heap.size := by have := World.block_lt_of_cell? w _ HPC.out; exact this
            go_wp2_with (at_builtin; refine wpList_append_own _ rfl (.tmp 36) (.tmp 38) 23 rfl wr.heap.size 3 i0 (.int .i64 0) 1 8 Try.underlying23 hinf hz0 hz1 hz2 rfl (by decide) _ _ _ rfl (HOW.out.alloc _) ⟨wx.heap.size, 0, none⟩ 1 1 [.int .i64 (k : Int)] rfl rfl (cell_one_set _ _ _ _ _) (by intro u hu; simp at hu; subst hu; rfl) (by unfold maxLen; omega) (by omega) (by simp [World.setCell]; omega) ?_; intro v3 w3 hown3 hgrow3 _; have HO3 := Lib.hid hown3; have HG3 := Lib.hid hgrow3; clear hown3 hgrow3; have HB3 := Lib.hid (((HBX.out.setCell (p := ⟨w.heap.size + 1, k, none⟩) (by simp) (.bool true)).alloc (by simp [World.setCell]; omega) (.cells #[.int .i64 (k : Int)] 3)).grown HG3.out (by simp [World.setCell]; omega) (fun q hq => by have := (HOW.out.lt q hq).1; omega)); have hpc3 := (HB3.out.cell (p := ad.add k) hpb).trans HPC.out)
            go_roundw
            case rel =>
              have HGR : Hid (wr.grownBy w3 (some (w.heap.size + 1))) := grown_later (grown_later (grownBy_trans hgx.out (grown_set wx _ k (.bool true))) (World.grownBy_alloc _ (.cells #[.int .i64 (k : Int)] 3) none) (fun i hi => by cases hi)) HG3.out (fun q hq => (HOW.out.lt q hq).1)
              refine ⟨_, _, gn p k, acc ++ [(k : Int)], k :: vis', rfl, rfl, rfl, HST.out.klt, by have := HST.out.len; omega, HST.out, ?_, ?_, HGR.out⟩
              · have := HO3.out
                simpa [ints, Hid] using this
              · exact ((hsx.out.set k).alloc _).grown HG3.out (own_ne_seen HOW.out (hsx.out.set k) (by decide))
            case measure =>
              refine todo_step hsx.out hinn.out.nodup hinn.out.lt hk hvk ?_
              have hl : w.heap.size + 1 < (wx.setCell ⟨w.heap.size + 1, k, none⟩ (.bool true)).heap.size := (hsx.out.set k).lt
              rw [HG3.out.block _ (by simp; simpa using Nat.lt_succ_of_lt hl) (fun e => own_ne_seen HOW.out (hsx.out.set k) (by decide) e.symm)]
              exact Below.heap_alloc _ _ _ hl
    · have hin' : i = n := by omega
      subst hin'
      go_wp2
      go_ret
      exact ⟨_, rfl, by rw [ho.out.done]; exact hos.out, hbe.out⟩

/-- 1 for even, -1 for odd. -/
def parity (d : Int) : Int := if d.tmod 2 = 0 then 1 else -1
def signR (p : List Int) : Int := if vld p = true then parity ((p.length : Int) - (cyclesL p).length) else 0
def cycR (p : List Int) : Bool × List (List Int) := if vld p = true then (true, cyclesL p) else (false, [])
theorem cyclesL_len {p : List Int} : (cyclesL p).length ≤ p.length := by
  have key : ∀ (is : List Nat) (vis : List Nat), (cycAll p is vis).length ≤ is.length := by
    intro is
    induction is with
    | nil => intro vis; simp [cycAll]
    | cons i is ih =>
      intro vis
      rw [cycAll]
      split
      · exact Nat.le_succ_of_le (ih vis)
      · simpa using ih _
  have := key (List.range' 0 p.length) []
  simpa [cyclesL] using this

end Go.Proofs.Ytcenffndclpjoaa

namespace Go.Proofs.Ytcenffndclpjoaa
open Go.RowKit Go.Shelf
attribute [local go_sem] Oper.semAt_some

theorem cycles_any (A : Option Addr) (n c : Nat) (w : World) :
    Calls Try.prog 76 #[.slice A n c] w fun e w' => e = .returned (.func (.func 89) #[] #[.pointer (some ⟨w.heap.size, 0, none⟩)]) ∧ w.alloc (.cells #[.slice A n c] 64) = w' := by
  have hmf : ∀ (fn : Fn) (first cap : Array Value) (w : World), (Instr.makeFunc fn first cap).run Try.prog w = .ok (.func fn first cap) w := fun _ _ _ _ => rfl
  go_enter Try.func76, Try.ntmps76
  go_wp2
  go_ret
  exact ⟨rfl, rfl⟩

set_option maxRecDepth 100000 in
set_option maxHeartbeats 1600000 in
theorem count_any (w : World) (A0 : Option Addr) (c0 n0 : Nat) (xs0 : List Int) (h0 : Rd w A0 n0 xs0) (hp : Vld xs0) :
    Calls Try.prog 61 #[.slice A0 n0 c0] w fun e w' => e = .returned (.int .i64 ((cyclesL xs0).length : Nat)) ∧ Below w.heap.size w w' := by
  have H0 := Lib.hid h0; have HV := Lib.hid hp
  have hl := cyclesL_len (p := xs0)
  have h12 := hp.2.1
  rw [h0.1] at hl h12
  clear h0 hp
  obtain ⟨m, hm⟩ : ∃ m, (cyclesL xs0).length = m := ⟨_, rfl⟩
  rw [hm] at hl ⊢
  have HM := Lib.hid hm; clear hm
  refine (callsIn_wide (n := 5)).1 ?_
  refine callsIn_of_wp_marks Try.func61 rfl trivial ?_
  simp only [Try.ntmps61, List.size_toArray, List.length_cons, List.length_nil, Nat.reduceAdd, Nat.reduceSub, Array.replicate_succ, Array.replicate_zero, List.push_toArray, List.append_toArray, List.nil_append, List.cons_append]
  gi_wp2_with fail
  refine ⟨trivial, ?_⟩
  refine (callsIn_wide.2 (cycles_any A0 n0 c0 _)).mono ?_
  rintro e w2 ⟨rfl, rfl⟩
  gi_wp2_with fail
  obtain ⟨W0, hW0⟩ : ∃ W0, (w.alloc (.cells #[.int .i64 0] 3)).alloc (.cells #[.slice A0 n0 c0] 64) = W0 := ⟨_, rfl⟩
  rw [hW0]
  have hz0 : w.heap.size + 2 = W0.heap.size := by rw [← hW0]; simp
  have hbx : W0.heap[w.heap.size]? = some (.cells #[.int .i64 0] 3 (0, 0)) := by
    rw [← hW0]; exact (Below.heap_alloc _ _ _ (by simp)).trans (heap_alloc_new w _)
  have hpm : W0.heap[w.heap.size + 1]? = some (.cells #[.slice A0 n0 c0] 64 (0, 0)) := by
    rw [← hW0]; have := heap_alloc_new (w.alloc (.cells #[.int .i64 0] 3)) (.cells #[.slice A0 n0 c0] 64); rwa [World.size_alloc] at this
  have hb0 : Below w.heap.size w W0 := by rw [← hW0]; exact ((Below.refl _ _).alloc (Nat.le_refl _) _).alloc (by simp) _
  have hr0 := H0.out.below hb0
  have HBX := Lib.hid hbx; have HPM := Lib.hid hpm; have HB0 := Lib.hid hb0; have HR0 := Lib.hid hr0; have HZ0 := Lib.hid hz0; clear hbx hpm hb0 hr0 hW0 hz0
  have hws : w.heap.size ≤ W0.heap.size := HB0.out.size
  refine range_cycles (F := Fence.wide) (n := 5) (Bn := w.heap.size + 1) (n₀ := w.heap.size) (xs := cyclesL xs0) rfl (by omega) rfl trivial (enters_of Try.func89 (by kernel_rfl) rfl)
    (cycles1_in (F := Fence.wide) (n := 4) trivial rfl (by omega) (w.heap.size + 1) w.heap.size W0.heap.size A0 n0 c0 xs0 W0 HPM.out HR0.out (Rd.lt H0.out) HV.out hws (Nat.le_refl _)) hws
    (fun _ pre W => W.heap[w.heap.size]? = some (.cells #[.int .i64 (pre.length : Nat)] 3 (0, 0)) ∧ Below w.heap.size w W)
    (fun _ _ _ _ h _ => h)
    (fun _ pre A B ⟨h1, h2⟩ hz hgo => ⟨hgo.box h1 (by decide), h2.trans ((hgo.below hz).mono hws)⟩)
    (fun _ pre W l o o' ⟨h1, h2⟩ hl hlo ho => ⟨put_box h1 hlo ho, h2.trans (put_below o' (by omega) h2.size)⟩)
    ⟨by simpa using HBX.out, HB0.out⟩
    (fun v => { tmps := #[.slice A0 n0 c0, undef, .int .i64 0, .pointer (some ⟨w.heap.size, 0, none⟩), .slice A0 n0 c0, .func (.func 89) #[] #[.pointer (some ⟨w.heap.size + 1, 0, none⟩)], v, undef, undef, undef], defers := [] }) ?assign ?body ?done
  case assign =>
    intro l v W K hK
    gi_wp2
    exact hK
  case body =>
    rintro l _ pre x v W ⟨hb1, hb2⟩ _ _ hv hpre
    have hc := cell_of_block hb1
    have hf : W.frozen? ⟨w.heap.size, 0, none⟩ = false := frozen_of_row W w.heap.size 0 _ _ hb1
    have hpl : pre.length + 1 ≤ m := by have := hpre.length_le; rw [HM.out] at this; simpa using this
    have HB1 := Lib.hid hb1; have HB2 := Lib.hid hb2; clear hb1 hb2 hv
    gi_wp2
    refine ⟨keep_set HB1.out (Nat.le_refl _) (by decide) (by decide) 0, ?_, HB2.out.setCell (p := ⟨w.heap.size, 0, none⟩) (Nat.le_refl _) _⟩
    rw [set_box HB1.out]
    congr 4
    simp
  case done =>
    rintro W ⟨hb1, hb2⟩ hK
    rw [HM.out] at hb1
    have hc := cell_of_block hb1
    have HB1 := Lib.hid hb1; have HB2 := Lib.hid hb2; have HK := Lib.hid hK; clear hb1 hb2 hK
    have fin : Below w.heap.size w (W.putObj W0.heap.size (.deferred none)) := HB2.out.trans (put_below _ hws HB2.out.size)
    have FIN := Lib.hid fin; clear fin
    gi_wp2
    refine ⟨by simp, .inl ⟨_, _, rfl, run_takeDeferred HK.out, ?_⟩⟩
    exact ⟨_, results_tmp rfl _ _ _, rfl, FIN.out⟩

end Go.Proofs.Ytcenffndclpjoaa

/-
  The library's Collect over the program's cycles, and PermCycles.
  Contracts of the small functions of package laws that compare, mark and look at slices of slices of ints.
-/
import Derived.Test.YteajaikgeephmaaSign
import Derived.Test.YteajaikgeephmaaMarkSS
namespace Go.Proofs.Yteajaikgeephmaa
open Go.RowKit Go.Shelf
attribute [local go_sem] Oper.semAt_some

theorem ownsRow_same {w w' : World} {base : Nat} {e : TypeId} {size n : Nat} {v : Value} {xs : List Value} (h : w.ownsRow base e size v n xs)
    (hs : ∀ (g : Nat) (cs : Array Value), w.heap[g]? = some (.cells cs e (0, 0)) → w'.heap[g]? = some (.cells cs e (0, 0))) : w'.ownsRow base e size v n xs := by
  obtain ⟨h1, h2⟩ := h
  refine ⟨h1, ?_⟩
  rcases h2 with h2 | ⟨g, cap, cur, hv, hg, hh, r⟩
  · exact .inl h2
  · exact .inr ⟨g, cap, cur, hv, hg, hs g cur hh, r⟩
theorem OwnSS.same {w w' : World} {lo hi : Nat} {v : Value} {xss : List (List Int)} (h : OwnSS w lo hi v xss)
    (hs : ∀ (g : Nat) (cs : Array Value) (t : TypeId), t = 23 ∨ t = 3 → w.heap[g]? = some (.cells cs t (0, 0)) → w'.heap[g]? = some (.cells cs t (0, 0))) : OwnSS w' lo hi v xss := by
  obtain ⟨vs, hl, ho, hr, hd⟩ := h
  exact ⟨vs, hl, ownsRow_same ho (fun g cs => hs g cs _ (.inl rfl)), fun j hj => ⟨ownsRow_same (hr j hj).1 (fun g cs => hs g cs _ (.inr rfl)), (hr j hj).2⟩, hd⟩
theorem box_set_other {W : World} {b : Nat} {t t' : TypeId} {cs cs' : Array Value} {u : Value} (hb : W.heap[b]? = some (.cells cs' t' (0, 0))) (ht : t ≠ t') {g : Nat} (h : W.heap[g]? = some (.cells cs t (0, 0))) : (W.setCell ⟨b, 0, none⟩ u).heap[g]? = some (.cells cs t (0, 0)) := by
  refine (Below.heap_setCell W ⟨b, 0, none⟩ u g (fun e => ?_)).trans h
  dsimp only at e
  subst e
  rw [h] at hb
  injection hb with hb
  injection hb with _ hb
  exact ht hb
theorem box_grown {w w' : World} {base : Nat} {e t : TypeId} {size n b : Nat} {v : Value} {xs : List Value} {cs : Array Value} (h : w.heap[b]? = some (.cells cs t (0, 0))) (ho : w.ownsRow base e size v n xs) (hg : w.grownBy w' v.ownBlock) (hne : t ≠ e) : w'.heap[b]? = some (.cells cs t (0, 0)) :=
  (hg.block b (Array.getElem?_eq_some_iff.1 h).1 (fun e' => by
    obtain ⟨_, cs', hh⟩ := row_kind ho b e'.symm
    rw [h] at hh
    injection hh with hh
    injection hh with _ hh
    exact hne hh)).trans h
theorem box_alloc {w : World} {b : Nat} {o o' : Obj} (h : w.heap[b]? = some o) : (w.alloc o').heap[b]? = some o := (Below.heap_alloc w o' b (Array.getElem?_eq_some_iff.1 h).1).trans h

set_option maxRecDepth 100000 in
set_option maxHeartbeats 1600000 in
theorem appendSeq_any (Bn : Nat) (A0 : Option Addr) (c0 n0 : Nat) (p : List Int) (w : World) (hBn : w.heap[Bn]? = some (.cells #[.slice A0 n0 c0] 60 (0, 0))) (hR : Rd w A0 n0 p) (hp : Vld p) :
    Calls Try.prog 105 #[.slice none 0 0, .func (.func 106) #[] #[.pointer (some ⟨Bn, 0, none⟩)]] w fun e w' => ∃ v, e = .returned v ∧ OwnSS w' w.heap.size w'.heap.size v (cyclesL p) ∧ Below w.heap.size w w' := by
  obtain ⟨i1, hinf1, hy0, hy1, hy2⟩ := info_parts info_slice
  have HBn := Lib.hid hBn; have HR := Lib.hid hR; have HV := Lib.hid hp
  have hl := cyclesL_len (p := p)
  have h12 := hp.2.1
  rw [hR.1] at hl h12
  obtain ⟨m, hm⟩ : ∃ m, (cyclesL p).length = m := ⟨_, rfl⟩
  rw [hm] at hl
  have HM := Lib.hid hm; clear hm hBn hR hp
  refine (callsIn_wide (n := 5)).1 ?_
  refine callsIn_of_wp_marks Try.func105 rfl trivial ?_
  simp only [Try.ntmps105, List.size_toArray, List.length_cons, List.length_nil, Nat.reduceAdd, Nat.reduceSub, Array.replicate_succ, Array.replicate_zero, List.push_toArray, List.append_toArray, List.nil_append, List.cons_append]
  gi_wp2_with fail
  obtain ⟨W0, hW0⟩ : ∃ W0, w.alloc (.cells #[.slice none 0 0] 30) = W0 := ⟨_, rfl⟩
  rw [hW0]
  have hz0 : w.heap.size + 1 = W0.heap.size := by rw [← hW0]; simp
  have HBX : Hid (W0.heap[w.heap.size]? = some (.cells #[.slice none 0 0] 30 (0, 0))) := by rw [← hW0]; exact heap_alloc_new w _
  have HPM : Hid (W0.heap[Bn]? = some (.cells #[.slice A0 n0 c0] 60 (0, 0))) := by rw [← hW0]; exact box_alloc HBn.out
  have HB0 : Hid (Below w.heap.size w W0) := by rw [← hW0]; exact (Below.refl _ _).alloc (Nat.le_refl _) _
  have HR0 := Lib.hid (HR.out.below HB0.out)
  have hws : w.heap.size ≤ W0.heap.size := HB0.out.size
  clear hW0
  refine range_cycles (F := Fence.wide) (n := 5) (Bn := Bn) (n₀ := w.heap.size) (xs := cyclesL p) rfl (by omega) rfl trivial (enters_of Try.func106 (by kernel_rfl) rfl)
    (cycles1_in (F := Fence.wide) (n := 4) trivial rfl (by omega) Bn w.heap.size W0.heap.size A0 n0 c0 p W0 HPM.out HR0.out (Rd.lt HR.out) HV.out hws (Nat.le_refl _)) hws
    (fun B pre W => (∃ v, W.heap[w.heap.size]? = some (.cells #[v] 30 (0, 0)) ∧ OwnSS W w.heap.size B v pre) ∧ Below w.heap.size w W)
    (fun _ _ _ _ ⟨⟨v, h1, h2⟩, h3⟩ hB => ⟨⟨v, h1, h2.more hB⟩, h3⟩)
    (fun _ pre A B ⟨⟨v, h1, h2⟩, h3⟩ hz hgo => ⟨⟨v, hgo.box h1 (by decide), h2.same (fun g cs t ht h => hgo.box h (by rcases ht with rfl | rfl <;> decide))⟩, h3.trans ((hgo.below hz).mono hws)⟩)
    (fun _ pre W l o o' ⟨⟨v, h1, h2⟩, h3⟩ hl hlo ho => ⟨⟨v, put_box h1 hlo ho, h2.same (fun g cs t _ h => put_box h hlo ho)⟩, h3.trans (put_below o' (by omega) h3.size)⟩)
    ⟨⟨_, HBX.out, OwnSS.nil_⟩, HB0.out⟩
    (fun v => { tmps := #[.slice none 0 0, .func (.func 106) #[] #[.pointer (some ⟨Bn, 0, none⟩)], .pointer (some ⟨w.heap.size, 0, none⟩), undef, .slice none 0 0, v, .func (.func 106) #[] #[.pointer (some ⟨Bn, 0, none⟩)], v, undef, undef, undef, undef, undef], defers := [] }) ?assign ?body ?done
  case assign =>
    intro l v W K hK
    gi_wp2
    exact hK
  case body =>
    rintro l B pre x u W ⟨⟨v, hb1, ⟨vs, hvl, hvo, hvr, hvd⟩⟩, hb3⟩ hzB hBW hu hpre
    have hc := cell_of_block hb1
    have hpl : pre.length + 1 ≤ m := by have := hpre.length_le; rw [HM.out] at this; simpa using this
    have hul := hu.lt
    obtain ⟨Au, cu, rfl, -, -⟩ := hu.form
    have HB1 := Lib.hid hb1; have HB3 := Lib.hid hb3; have HVL := Lib.hid hvl; have HVO := Lib.hid hvo; have HVR := Lib.hid hvr; have HVD := Lib.hid hvd; have HU := Lib.hid hu; have HUL := Lib.hid hul; clear hb1 hb3 hvl hvo hvr hvd hu hul
    have hsz := HB3.out.size
    gi_wp2_with (gi_at_builtin; refine wpListIn_append_own _ rfl (.tmp 8) (.tmp 10) 30 rfl w.heap.size 23 i1 (.slice none 0 0) 1 24 Try.underlying30 hinf1 hy0 hy1 hy2 rfl (by decide) _ _ _ rfl (HVO.out.alloc _) ⟨W.heap.size, 0, none⟩ 1 1 [.slice Au x.length cu] rfl rfl (cell_one_new _ _ _) (by intro u hu; simp at hu; subst hu; rfl) (by unfold maxLen; omega) (by omega) (by simp; omega) ?_; intro v1 w1 hown1 hgrow1 _; obtain ⟨g1, cap1, rfl⟩ := ownsRow_succ hown1; have HO1 := Lib.hid hown1; have HG1 := Lib.hid hgrow1; clear hown1 hgrow1; have HBX1 := Lib.hid (box_grown (box_alloc (o' := .cells #[.slice Au x.length cu] 23) HB1.out) (HVO.out.alloc _) HG1.out (by decide)); have hc1 := cell_of_block HBX1.out; have hf1 : w1.frozen? ⟨w.heap.size, 0, none⟩ = false := frozen_of_row w1 w.heap.size 0 _ _ HBX1.out)
    have hba : Below W.heap.size W (W.alloc (.cells #[.slice Au x.length cu] 23)) := (Below.refl _ _).alloc (Nat.le_refl _) _
    have hs1 := HG1.out.size
    rw [World.size_alloc] at hs1
    have ho := OwnSS.snoc (hi := B) (hi' := w1.heap.size) HVL.out (fun j hj => ⟨(HVR.out j hj).1.below hba, (HVR.out j hj).2⟩) HVD.out (HVO.out.alloc _) ((HU.out.below hba).mono (Nat.le_trans hws hzB)) (fun k hk => (HUL.out k hk).1) (by omega) (fun k hk => by have := (HUL.out k hk).2; omega) HO1.out HG1.out
    have hk1 : Keep w.heap.size W w1 := ((Keep.refl _ W).alloc hsz _).grown (by simp; omega) HG1.out (fun r hr => by
      obtain ⟨h1, cs, h2⟩ := row_kind (HVO.out.alloc (.cells #[.slice Au x.length cu] 23)) r hr
      exact ⟨h1, _, h2, not_shut (by decide) (by decide)⟩)
    have hk2 := keep_set (n₀ := w.heap.size) (u := .slice (some ⟨g1, 0, none⟩) (pre.length + 1) cap1) HBX1.out (Nat.le_refl _) (by decide) (by decide) 0
    refine ⟨hk1.trans hk2, ⟨_, set_box HBX1.out, ?_⟩, HB3.out.trans (hk1.trans hk2).below⟩
    exact (ho.same (fun g cs t ht h => box_set_other HBX1.out (by rcases ht with rfl | rfl <;> decide) h)).more (by simp [World.setCell])
  case done =>
    rintro W ⟨⟨v, hb1, hb2⟩, hb3⟩ hK
    have hc := cell_of_block hb1
    have FIN : Hid (Below w.heap.size w (W.putObj W0.heap.size (.deferred none))) := hb3.trans (put_below _ hws hb3.size)
    have HO : Hid (OwnSS (W.putObj W0.heap.size (.deferred none)) w.heap.size (W.putObj W0.heap.size (.deferred none)).heap.size v (cyclesL p)) := (hb2.same (fun g cs t _ h => put_box h hK rfl)).more (by simp)
    have HK := Lib.hid hK; clear hb1 hb2 hb3 hK
    gi_wp2
    refine ⟨by simp, .inl ⟨_, _, rfl, run_takeDeferred HK.out, ?_⟩⟩
    exact ⟨_, results_tmp rfl _ _ _, v, rfl, HO.out, FIN.out⟩

set_option maxHeartbeats 800000 in
theorem collect_any (Bn : Nat) (A0 : Option Addr) (c0 n0 : Nat) (p : List Int) (w : World) (hBn : w.heap[Bn]? = some (.cells #[.slice A0 n0 c0] 60 (0, 0))) (hR : Rd w A0 n0 p) (hp : Vld p) :
    Calls Try.prog 68 #[.func (.func 106) #[] #[.pointer (some ⟨Bn, 0, none⟩)]] w fun e w' => ∃ v, e = .returned v ∧ OwnSS w' w.heap.size w'.heap.size v (cyclesL p) ∧ Below w.heap.size w w' := by
  have HC := Lib.hid (appendSeq_any Bn A0 c0 n0 p w hBn hR hp); clear hBn hR hp
  go_enter Try.func68, Try.ntmps68
  go_wp2_with fail
  refine HC.out.mono ?_
  rintro e w' ⟨v, rfl, o, b⟩
  have HO := Lib.hid o; have HB := Lib.hid b; clear o b
  go_wp2_with fail
  go_ret
  exact ⟨v, rfl, HO.out, HB.out⟩

set_option maxHeartbeats 800000 in
theorem impl_cycR (w : World) (A0 : Option Addr) (c0 n0 : Nat) (xs0 : List Int) (h0 : Rd w A0 n0 xs0) (hn0 : n0 ≤ 1048576) {ok : Bool} {ys : List (List Int)} (hR : cycR xs0 = (ok, ys)) :
    Calls Try.prog 20 #[.slice A0 n0 c0] w fun e w' => ∃ v, e = .returned (.tuple #[v, .bool ok]) ∧ OwnSS w' w.heap.size w'.heap.size v ys ∧ Below w.heap.size w w' := by
  have H0 := Lib.hid h0; have HR := Lib.hid hR; clear h0 hR
  by_cases hb : vld xs0 = true
  · have HV := Lib.hid (Vld_of hb)
    obtain ⟨rfl, rfl⟩ : ok = true ∧ ys = cyclesL xs0 := by have := HR.out; rw [cycR, if_pos hb] at this; simpa [eq_comm] using this
    clear HR
    go_enter Try.func20, Try.ntmps20
    go_wp2_with fail
    refine (implValid_any A0 n0 c0 xs0 w H0.out (by omega)).mono ?_
    rintro e w1 ⟨rfl, b⟩
    have HB := Lib.hid b; have H01 := Lib.hid (H0.out.below b); clear b
    go_wp2_with fail
    refine (cycles_any A0 n0 c0 w1).mono ?_
    rintro e w2 ⟨rfl, rfl⟩
    have hb2 : Below w1.heap.size w1 (w1.alloc (.cells #[.slice A0 n0 c0] 60)) := (Below.refl _ _).alloc (Nat.le_refl _) _
    have HC := Lib.hid (collect_any w1.heap.size A0 c0 n0 xs0 _ (heap_alloc_new w1 _) (H01.out.below hb2) HV.out)
    have HB2 := Lib.hid (HB.out.trans (hb2.mono HB.out.size)); clear hb2
    go_wp2_with fail
    refine HC.out.mono ?_
    rintro e w3 ⟨v, rfl, o, b⟩
    have HO := Lib.hid (o.mono HB2.out.size); have HB3 := Lib.hid (HB2.out.trans (b.mono HB2.out.size)); clear o b
    go_wp2_with fail
    go_ret2
    exact ⟨v, rfl, HO.out, HB3.out⟩
  · have hb' : vld xs0 = false := by simpa using hb
    obtain ⟨rfl, rfl⟩ : ok = false ∧ ys = [] := by have := HR.out; rw [cycR, if_neg hb] at this; simpa [eq_comm] using this
    clear HR hb
    go_enter Try.func20, Try.ntmps20
    go_wp2_with fail
    refine (implValid_any A0 n0 c0 xs0 w H0.out (by omega)).mono ?_
    rintro e w1 ⟨rfl, b⟩
    have HB := Lib.hid b; clear b
    go_wp2_with fail
    go_ret2
    exact ⟨_, rfl, OwnSS.nil_, HB.out⟩

theorem cycR_len {p : List Int} {ys : List (List Int)} {ok : Bool} (h : cycR p = (ok, ys)) : ys.length ≤ 12 ∧ total ys ≤ 1000 := by
  unfold cycR at h
  split at h
  · rename_i hb
    injection h with _ h
    have h12 := (Vld_of hb).2.1
    have h1 := cyclesL_len (p := p)
    have h2 := cycAll_total p (List.range' 0 p.length) []
    rw [List.length_range'] at h2
    rw [← h]
    exact ⟨by omega, by unfold cyclesL; omega⟩
  · injection h with _ h; rw [← h]; exact ⟨by simp, by simp [total]⟩

end Go.Proofs.Yteajaikgeephmaa

/-
  The model's l1Cycles, PermCycles and PermSign.
  The program's cycles, how many there are, and PermSign.
-/
import Derived.Test.YtfdliekhlcbkcaaDoorSeen
import Derived.Test.YtfdliekhlcbkcaaDoorIter
namespace Go.Proofs.YtfdliekhlcbkcaaDoor
open Go.RowKit

/-- 1 for even, -1 for odd. -/
def parity (d : Int) : Int := if d.tmod 2 = 0 then 1 else -1
def signR (p : List Int) : Int := if vld p = true then parity ((p.length : Int) - (cyclesL p).length) else 0
def cycR (p : List Int) : Bool × List (List Int) := if vld p = true then (true, cyclesL p) else (false, [])
theorem cyclesL_len {p : List Int} : (cyclesL p).length ≤ p.length := by
  have key : ∀ (is : List Nat) (vis : List Nat), (cycAll p is vis).length ≤ is.length := by
    intro is
    induction is with
    | nil => intro vis; simp [cycAll]
    | cons i is ih =>
      intro vis
      rw [cycAll]
      split
      · exact Nat.le_succ_of_le (ih vis)
      · simpa using ih _
  have := key (List.range' 0 p.length) []
  simpa [cyclesL] using this

end Go.Proofs.YtfdliekhlcbkcaaDoor

namespace Go.Proofs.YtfdliekhlcbkcaaDoor
open Go.RowKit Go.Shelf
attribute [local go_sem] Oper.semAt_some

theorem cycles_any (A : Option Addr) (n c : Nat) (w : World) :
    Calls Tryd.prog 97 #[.slice A n c] w fun e w' => e = .returned (.func (.func 114) #[] #[.pointer (some ⟨w.heap.size, 0, none⟩)]) ∧ w.alloc (.cells #[.slice A n c] 67) = w' := by
  have hmf : ∀ (fn : Fn) (first cap : Array Value) (w : World), (Instr.makeFunc fn first cap).run Tryd.prog w = .ok (.func fn first cap) w := fun _ _ _ _ => rfl
  go_enter Tryd.func97, Tryd.ntmps97
  go_wp2
  go_ret
  exact ⟨rfl, rfl⟩

set_option maxRecDepth 100000 in
set_option maxHeartbeats 1600000 in
theorem count_any (w : World) (A0 : Option Addr) (c0 n0 : Nat) (xs0 : List Int) (h0 : Rd w A0 n0 xs0) (hp : Vld xs0) :
    Calls Tryd.prog 61 #[.slice A0 n0 c0] w fun e w' => e = .returned (.int .i64 ((cyclesL xs0).length : Nat)) ∧ Below w.heap.size w w' := by
  have H0 := Lib.hid h0; have HV := Lib.hid hp
  have hl := cyclesL_len (p := xs0)
  have h12 := hp.2.1
  rw [h0.1] at hl h12
  clear h0 hp
  obtain ⟨m, hm⟩ : ∃ m, (cyclesL xs0).length = m := ⟨_, rfl⟩
  rw [hm] at hl ⊢
  have HM := Lib.hid hm; clear hm
  refine (callsIn_wide (n := 5)).1 ?_
  refine callsIn_of_wp_marks Tryd.func61 rfl trivial ?_
  simp only [Tryd.ntmps61, List.size_toArray, List.length_cons, List.length_nil, Nat.reduceAdd, Nat.reduceSub, Array.replicate_succ, Array.replicate_zero, List.push_toArray, List.append_toArray, List.nil_append, List.cons_append]
  gi_wp2_with fail
  refine ⟨trivial, ?_⟩
  refine (callsIn_wide.2 (cycles_any A0 n0 c0 _)).mono ?_
  rintro e w2 ⟨rfl, rfl⟩
  gi_wp2_with fail
  obtain ⟨W0, hW0⟩ : ∃ W0, (w.alloc (.cells #[.int .i64 0] 3)).alloc (.cells #[.slice A0 n0 c0] 67) = W0 := ⟨_, rfl⟩
  rw [hW0]
  have hz0 : w.heap.size + 2 = W0.heap.size := by rw [← hW0]; simp
  have hbx : W0.heap[w.heap.size]? = some (.cells #[.int .i64 0] 3 (0, 0)) := by
    rw [← hW0]; exact (Below.heap_alloc _ _ _ (by simp)).trans (heap_alloc_new w _)
  have hpm : W0.heap[w.heap.size + 1]? = some (.cells #[.slice A0 n0 c0] 67 (0, 0)) := by
    rw [← hW0]; have := heap_alloc_new (w.alloc (.cells #[.int .i64 0] 3)) (.cells #[.slice A0 n0 c0] 67); rwa [World.size_alloc] at this
  have hb0 : Below w.heap.size w W0 := by rw [← hW0]; exact ((Below.refl _ _).alloc (Nat.le_refl _) _).alloc (by simp) _
  have hr0 := H0.out.below hb0
  have HBX := Lib.hid hbx; have HPM := Lib.hid hpm; have HB0 := Lib.hid hb0; have HR0 := Lib.hid hr0; have HZ0 := Lib.hid hz0; clear hbx hpm hb0 hr0 hW0 hz0
  have hws : w.heap.size ≤ W0.heap.size := HB0.out.size
  refine range_cycles (F := Fence.wide) (n := 5) (Bn := w.heap.size + 1) (n₀ := w.heap.size) (xs := cyclesL xs0) rfl (by omega) rfl trivial (enters_of Tryd.func114 (by kernel_rfl) rfl)
    (cycles1_in (F := Fence.wide) (n := 4) trivial rfl (by omega) (w.heap.size + 1) w.heap.size W0.heap.size A0 n0 c0 xs0 W0 HPM.out HR0.out (Rd.lt H0.out) HV.out hws (Nat.le_refl _)) hws
    (fun _ pre W => W.heap[w.heap.size]? = some (.cells #[.int .i64 (pre.length : Nat)] 3 (0, 0)) ∧ Below w.heap.size w W)
    (fun _ _ _ _ h _ => h)
    (fun _ pre A B ⟨h1, h2⟩ hz hgo => ⟨hgo.box h1 (by decide), h2.trans ((hgo.below hz).mono hws)⟩)
    (fun _ pre W l o o' ⟨h1, h2⟩ hl hlo ho => ⟨put_box h1 hlo ho, h2.trans (put_below o' (by omega) h2.size)⟩)
    ⟨by simpa using HBX.out, HB0.out⟩
    (fun v => { tmps := #[.slice A0 n0 c0, undef, .int .i64 0, .pointer (some ⟨w.heap.size, 0, none⟩), .slice A0 n0 c0, .func (.func 114) #[] #[.pointer (some ⟨w.heap.size + 1, 0, none⟩)], v, undef, undef, undef], defers := [] }) ?assign ?body ?done
  case assign =>
    intro l v W K hK
    gi_wp2
    exact hK
  case body =>
    rintro l _ pre x v W ⟨hb1, hb2⟩ _ _ hv hpre
    have hc := cell_of_block hb1
    have hf : W.frozen? ⟨w.heap.size, 0, none⟩ = false := frozen_of_row W w.heap.size 0 _ _ hb1
    have hpl : pre.length + 1 ≤ m := by have := hpre.length_le; rw [HM.out] at this; simpa using this
    have HB1 := Lib.hid hb1; have HB2 := Lib.hid hb2; clear hb1 hb2 hv
    gi_wp2
    refine ⟨keep_set HB1.out (Nat.le_refl _) (by decide) (by decide) 0, ?_, HB2.out.setCell (p := ⟨w.heap.size, 0, none⟩) (Nat.le_refl _) _⟩
    rw [set_box HB1.out]
    congr 4
    simp
  case done =>
    rintro W ⟨hb1, hb2⟩ hK
    rw [HM.out] at hb1
    have hc := cell_of_block hb1
    have HB1 := Lib.hid hb1; have HB2 := Lib.hid hb2; have HK := Lib.hid hK; clear hb1 hb2 hK
    have fin : Below w.heap.size w (W.putObj W0.heap.size (.deferred none)) := HB2.out.trans (put_below _ hws HB2.out.size)
    have FIN := Lib.hid fin; clear fin
    gi_wp2
    refine ⟨by simp, .inl ⟨_, _, rfl, run_takeDeferred HK.out, ?_⟩⟩
    exact ⟨_, results_tmp rfl _ _ _, rfl, FIN.out⟩

end Go.Proofs.YtfdliekhlcbkcaaDoor

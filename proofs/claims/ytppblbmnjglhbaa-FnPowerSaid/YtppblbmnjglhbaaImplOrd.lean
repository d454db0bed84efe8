/-
  PermOrder, the program's.
-/
import Derived.Test.YtppblbmnjglhbaaOrd
import Derived.Test.YtppblbmnjglhbaaPow
namespace Go.Proofs.Ytppblbmnjglhbaa
open Go.RowKit Go.Shelf
attribute [local go_sem] Oper.semAt_some

set_option maxHeartbeats 800000 in
theorem gcd_any (a b : Nat) (w : World) (ha : a ≤ 1000000000000000) (hb : b ≤ 1000000000000000) :
    Calls Try.prog 65 #[.int .i64 a, .int .i64 b] w fun e w' => e = .returned (.int .i64 (Nat.gcd a b : Nat)) ∧ ∃ q, w' = w.drewN q := by
  go_enter Try.func65, Try.ntmps65
  go_wp2_with fail
  go_loopw [0, 1] (fun u v wr => ∃ x y q : Nat, u = .int .i64 x ∧ v = .int .i64 y ∧ wr = w.drewN q ∧ x ≤ 1000000000000000 ∧ y ≤ 1000000000000000 ∧ Hid (Nat.gcd x y = Nat.gcd a b)) (fun _ v _ => (intOf v).toNat)
  case atStart => exact ⟨a, b, 0, rfl, rfl, rfl, ha, hb, rfl⟩
  case round =>
    obtain ⟨x, y, q, rfl, rfl, rfl, hx, hy, hg⟩ := hrel
    by_cases h0 : y = 0
    · subst h0
      go_wp2
      go_ret
      exact ⟨ret_int (by rw [← hg.out, Nat.gcd_zero_right]), _, rfl⟩
    · have hne : ((y : Int) != 0) = true := by simp; omega
      have hlt := Nat.mod_lt x (Nat.pos_of_ne_zero h0)
      have ht : (x : Int).tmod (y : Int) = ((x % y : Nat) : Int) := by rw [Int.tmod_eq_emod_of_nonneg (by omega)]; exact (Int.natCast_emod x y).symm
      obtain ⟨z, hz⟩ : ∃ z, x % y = z := ⟨_, rfl⟩
      rw [hz] at ht hlt
      have hg2 : Hid (Nat.gcd y z = Nat.gcd a b) := by rw [← hz, ← hg.out]; show Nat.gcd y (x % y) = Nat.gcd x y; rw [Nat.gcd_comm y, ← Nat.gcd_rec, Nat.gcd_comm]
      clear hz hg
      go_wp2
      go_quiet (fail)
      go_wp2
      go_roundw
      case rel => exact ⟨y, z, q + _, rfl, rfl, World.drewN_drewN _ _ _, hy, by omega, hg2⟩
      case measure => simp [intOf]; omega

/-- Left by its end, block b holding v, with some draws more. -/
def PutOne (W : World) (b : Nat) (v : Value) : Exit → Act → World → Prop := fun e _ W' => e = .normal ∧ ∃ j, W' = (W.drewN j).setCell ⟨b, 0, none⟩ v

set_option maxRecDepth 100000 in
set_option maxHeartbeats 12000000 in
theorem order_any (w : World) (A0 : Option Addr) (c0 n0 : Nat) (p : List Int) (h0 : Rd w A0 n0 p) (hp : Vld p) :
    Calls Try.prog 43 #[.slice A0 n0 c0] w fun e w' => e = .returned (.int .i64 (lcmL (cyclesL p) : Nat)) ∧ Below w.heap.size w w' := by
  have H0 := Lib.hid h0; have HV := Lib.hid hp; clear h0 hp
  refine (callsIn_wide (n := 5)).1 ?_
  refine callsIn_of_wp_marks Try.func43 rfl trivial ?_
  simp only [Try.ntmps43, List.size_toArray, List.length_cons, List.length_nil, Nat.reduceAdd, Nat.reduceSub, Array.replicate_succ, Array.replicate_zero, List.push_toArray, List.append_toArray, List.nil_append, List.cons_append]
  gi_wp2_with fail
  refine ⟨trivial, ?_⟩
  refine (callsIn_wide.2 (cycles_any A0 n0 c0 _)).mono ?_
  rintro e w2 ⟨rfl, rfl⟩
  gi_wp2_with fail
  obtain ⟨W0, hW0⟩ : ∃ W0, (w.alloc (.cells #[.int .i64 1] 3)).alloc (.cells #[.slice A0 n0 c0] 55) = W0 := ⟨_, rfl⟩
  rw [hW0]
  have hz0 : w.heap.size + 2 = W0.heap.size := by rw [← hW0]; simp
  have HBX : Hid (W0.heap[w.heap.size]? = some (.cells #[.int .i64 1] 3 (0, 0))) := by
    rw [← hW0]; exact (Below.heap_alloc _ _ _ (by simp)).trans (heap_alloc_new w _)
  have HPM : Hid (W0.heap[w.heap.size + 1]? = some (.cells #[.slice A0 n0 c0] 55 (0, 0))) := by
    rw [← hW0]; have := heap_alloc_new (w.alloc (.cells #[.int .i64 1] 3)) (.cells #[.slice A0 n0 c0] 55); rwa [World.size_alloc] at this
  have HB0 : Hid (Below w.heap.size w W0) := by rw [← hW0]; exact ((Below.refl _ _).alloc (Nat.le_refl _) _).alloc (by simp) _
  have HR0 := Lib.hid (H0.out.below HB0.out)
  have hws : w.heap.size ≤ W0.heap.size := HB0.out.size
  have HSP := Lib.hid (cyclesL_spec HV.out)
  have h12 : n0 ≤ 12 := by rw [← H0.out.1]; exact HV.out.2.1
  have HCL : Hid ((cyclesL p).length ≤ 12) := by have := cyclesL_len (p := p); rw [H0.out.1] at this; exact Nat.le_trans this h12
  clear hW0
  refine range_cycles (F := Fence.wide) (n := 5) (Bn := w.heap.size + 1) (n₀ := w.heap.size) (xs := cyclesL p) rfl (by omega) rfl trivial (enters_of Try.func67 (by kernel_rfl) rfl)
    (cycles1_in (F := Fence.wide) (n := 4) trivial rfl (by omega) (w.heap.size + 1) w.heap.size W0.heap.size A0 n0 c0 p W0 HPM.out HR0.out (Rd.lt H0.out) HV.out hws (Nat.le_refl _)) hws
    (fun _ pre W => W.heap[w.heap.size]? = some (.cells #[.int .i64 (lcmL pre : Nat)] 3 (0, 0)) ∧ Below w.heap.size w W)
    (fun _ _ _ _ h _ => h)
    (fun _ pre A B ⟨h1, h2⟩ hz hgo => ⟨hgo.box h1 (by decide), h2.trans ((hgo.below hz).mono hws)⟩)
    (fun _ pre W l o o' ⟨h1, h2⟩ hl hlo ho => ⟨put_box h1 hlo ho, h2.trans (put_below o' (by omega) h2.size)⟩)
    ⟨HBX.out, HB0.out⟩
    (fun v => { tmps := #[.slice A0 n0 c0, undef, .int .i64 0, .pointer (some ⟨w.heap.size, 0, none⟩), v, .slice A0 n0 c0, .func (.func 67) #[] #[.pointer (some ⟨w.heap.size + 1, 0, none⟩)], v, undef, undef, undef, undef, undef, undef, undef, undef, undef, undef], defers := [] }) ?assign ?body ?done
  case assign =>
    intro l v W K hK
    gi_wp2
    exact hK
  case body =>
    rintro l B pre x u W ⟨hbx, hbe⟩ hzB hBW hu hpre
    obtain ⟨hxm, _⟩ := prefix_last hpre HSP.out.2.2
    have hcy := HSP.out.1 x hxm
    have hsh := cyclesL_short hxm
    have hL0 := hcy.pos
    have hall : ∀ c, c ∈ pre ++ [x] → c ∈ cyclesL p := fun c hc => hpre.subset hc
    have hlen : (pre ++ [x]).length ≤ 12 := Nat.le_trans hpre.length_le HCL.out
    have hlt1 : lcmL (pre ++ [x]) ≤ 23298085122481 := by
      refine Nat.le_trans (lcmL_le (fun c hc => ⟨(HSP.out.1 c (hall c hc)).pos, cyclesL_short (hall c hc)⟩)) ?_
      refine Nat.le_trans (Nat.pow_le_pow_right (by omega) hlen) ?_
      decide
    have hlt2 : lcmL pre ≤ 23298085122481 := by
      refine Nat.le_trans (lcmL_le (fun c hc => ⟨(HSP.out.1 c (hall c (by simp [hc]))).pos, cyclesL_short (hall c (by simp [hc]))⟩)) ?_
      refine Nat.le_trans (Nat.pow_le_pow_right (by omega) (show pre.length ≤ 12 by simp at hlen; omega)) ?_
      decide
    rw [lcmL_snoc] at hlt1
    have HN : Hid (lcmL (pre ++ [x]) = Nat.lcm (lcmL pre) x.length) := lcmL_snoc _ _
    obtain ⟨L, hL⟩ : ∃ L, x.length = L := ⟨_, rfl⟩
    rw [hL] at hsh hL0 hlt1 HN
    obtain ⟨Au, cu, rfl, _, -⟩ := hu.form' hL
    obtain ⟨o, ho⟩ : ∃ o, lcmL pre = o := ⟨_, rfl⟩
    rw [ho] at hbx hlt1 hlt2 HN
    obtain ⟨g, hg⟩ : ∃ g, Nat.gcd o L = g := ⟨_, rfl⟩
    have hg0 : 0 < g := by rw [← hg]; exact Nat.gcd_pos_of_pos_right _ hL0
    obtain ⟨q, hq⟩ : ∃ q, o / g = q := ⟨_, rfl⟩
    have hqo : q ≤ o := by rw [← hq]; exact Nat.div_le_self _ _
    have hres : q * L = Nat.lcm o L := by
      have hd : g ∣ o := by rw [← hg]; exact Nat.gcd_dvd_left _ _
      rw [← hq, Nat.lcm, hg, Nat.div_mul_right_comm hd]
    have hcell := cell_of_block hbx
    have hfr : W.frozen? ⟨w.heap.size, 0, none⟩ = false := frozen_of_row W w.heap.size 0 _ _ hbx
    have HG : ∀ W', Calls Try.prog 65 #[.int .i64 o, .int .i64 L] W' fun e w' => e = .returned (.int .i64 (g : Nat)) ∧ ∃ k, w' = W'.drewN k := fun W' => by
      rw [← hg]; exact gcd_any o L W' (by omega) (by omega)
    have HG2 := Lib.hid HG
    have hqq : (q * L : Nat) ≤ 23298085122481 := by rw [hres]; exact hlt1
    have hqL : ((q : Int) * (L : Int)) ≤ 23298085122481 := by have : ((q * L : Nat) : Int) ≤ 23298085122481 := by omega
                                                              rwa [Int.natCast_mul] at this
    have hqL0 : 0 ≤ ((q : Int) * (L : Int)) := Int.mul_nonneg (by omega) (by omega)
    have hg00 : ¬ g = 0 := by omega
    have hgb : ((g : Int) == 0) = false := by simp; omega
    have ht : (o : Int).tdiv (g : Int) = (q : Int) := by rw [← hq]; rw [Int.tdiv_eq_ediv_of_nonneg (by omega)]; exact (Int.natCast_ediv o g).symm
    have hw1 : IntKind.i64.wrap (q : Int) = (q : Int) := IntWalk.i64_in _ (by omega)
    have hw2 : IntKind.i64.wrap ((q : Int) * (L : Int)) = (q : Int) * (L : Int) := IntWalk.i64_in _ (by omega)
    have HRES : Hid (Keep w.heap.size W (W.setCell ⟨w.heap.size, 0, none⟩ (.int .i64 ((q : Int) * (L : Int)))) ∧ ((W.setCell ⟨w.heap.size, 0, none⟩ (.int .i64 ((q : Int) * (L : Int)))).heap[w.heap.size]? = some (.cells #[.int .i64 (lcmL (pre ++ [x]) : Nat)] 3 (0, 0)) ∧ Below w.heap.size w (W.setCell ⟨w.heap.size, 0, none⟩ (.int .i64 ((q : Int) * (L : Int)))))) := by
      refine ⟨keep_set hbx (Nat.le_refl _) (by decide) (by decide) 0, ?_, hbe.setCell (p := ⟨w.heap.size, 0, none⟩) (Nat.le_refl _) _⟩
      rw [set_box hbx, HN.out, ← hres, Int.natCast_mul]
    clear H0 HV hz0 HBX HPM HB0 HR0 hws HSP h12 HCL hbx hbe hzB hBW hu hpre hxm hcy hsh hall hlen hlt1 hlt2 HN hL ho hg hg0 hq hqo hres HG hqq
    have HR2 : Hid (∀ d, Keep w.heap.size W ((W.drewN d).setCell ⟨w.heap.size, 0, none⟩ (.int .i64 ((q : Int) * (L : Int)))) ∧ (((W.drewN d).setCell ⟨w.heap.size, 0, none⟩ (.int .i64 ((q : Int) * (L : Int)))).heap[w.heap.size]? = some (.cells #[.int .i64 (lcmL (pre ++ [x]) : Nat)] 3 (0, 0)) ∧ Below w.heap.size w ((W.drewN d).setCell ⟨w.heap.size, 0, none⟩ (.int .i64 ((q : Int) * (L : Int)))))) := fun d => by
      have h := HRES.out
      exact ⟨⟨⟨h.1.below.os, h.1.below.tape, h.1.below.output, h.1.below.size, h.1.below.block⟩, h.1.kept⟩, h.2.1, ⟨h.2.2.os, h.2.2.tape, h.2.2.output, h.2.2.size, h.2.2.block⟩⟩
    clear HRES
    gi_wp2
    refine wpIn_mono (Q := PutOne W w.heap.size (.int .i64 ((q : Int) * (L : Int)))) ?_ (by
      rintro e a' W' ⟨rfl, d, rfl⟩
      exact HR2.out d)
    have hmix := mixed
    clear HR2
    gi_region_with_o (refine ⟨trivial, ?_⟩; gi_at_call 65; refine (CallsIn.inRound l (callsIn_wide.2 (HG2.out _))).mono ?_; rintro e w' ⟨rfl, k, rfl⟩)
    all_goals exact ⟨rfl, _, rfl⟩
  case done =>
    rintro W ⟨hbx, hbe⟩ hK
    have hc := cell_of_block hbx
    have FIN : Hid (Below w.heap.size w (W.putObj W0.heap.size (.deferred none))) := hbe.trans (put_below _ hws hbe.size)
    have HK := Lib.hid hK; clear hbx hbe hK
    gi_wp2
    refine ⟨by simp, .inl ⟨_, _, rfl, run_takeDeferred HK.out, ?_⟩⟩
    exact ⟨_, results_tmp rfl _ _ _, rfl, FIN.out⟩

end Go.Proofs.Ytppblbmnjglhbaa

/-
  The draws of the laws on one permutation; the laws' own helpers.
  What the laws share: their own helpers, and the draws of two permutations.
  What the laws on maps share: sums of lists, elements of rows.
-/
import Derived.Test.YteajaikgeephmaaDrawC
import Derived.Test.YteajaikgeephmaaSpecPow
import Derived.Test.YteajaikgeephmaaKitM
import Derived.Deep.RegionHeld3
import Derived.Deep.RegionWith
namespace Go.Proofs.Yteajaikgeephmaa
open Go.RowKit

theorem open_reads (w : World) (A : Option Addr) (n c : Nat) (bs : List Int) (h : RdB w A n bs) (hn : n ≤ 1048576) (hc : n ≤ c) :
    Calls Try.prog 62 #[.slice A n c] w fun e w' => e = .returned (.pointer (some ⟨w.heap.size, 0, none⟩)) ∧ Reads w' w.heap.size 0 ∧ Below w.heap.size w w' ∧ w.heap.size < w'.heap.size := by
  refine (open_any w A n c hn hc).mono ?_
  rintro e w' ⟨rfl, L, hL, hLn, rfl⟩
  have hb : Below w.heap.size w (w.alloc (.cells #[.slice A L c, .int .i64 0] 93)) := (Below.refl _ _).alloc (Nat.le_refl _) _
  have ht := h.take hLn
  refine ⟨rfl, ⟨A, L, c, bs.take L, heap_alloc_new w _, ⟨ht.1, fun h0 => ?_, ht.2.2⟩, hL, fun ad e h0 => ?_⟩, hb, by simp⟩
  · obtain ⟨ad, e, hc⟩ := ht.2.1 h0
    exact ⟨ad, e, fun j hj => (hb.cell (World.block_lt_of_cell? w _ (hc j hj))).trans (hc j hj)⟩
  · obtain ⟨ad', e', hc⟩ := ht.2.1 h0
    rw [e] at e'
    injection e' with e'
    subst e'
    have := World.block_lt_of_cell? w _ (hc 0 h0)
    rwa [add_block] at this
set_option maxHeartbeats 800000 in
theorem stayOf_any (n : Nat) (w : World) (hn : n ≤ 1048576) :
    Calls Try.prog 19 #[.int .i64 n] w fun e w' => ∃ v, e = .returned v ∧ Own w' w.heap.size v (sameL n) ∧ Below w.heap.size w w' := by
  obtain ⟨i0, hinf, hz0, hz1, hz2⟩ := info_parts info_int
  go_enter Try.func19, Try.ntmps19
  go_wp2_with fail
  go_loopw [3, 4] (fun v' i wr => ∃ (v : Value) (k : Nat), v = v' ∧ k ≤ n ∧ i = .int .i64 k ∧ Hid (wr.ownsRow w.heap.size 3 1 v k (ints (sameL k))) ∧ Hid (Below w.heap.size w wr)) (fun _ i _ => n - (intOf i).toNat)
  case atStart => exact ⟨_, 0, rfl, Nat.zero_le _, rfl, Own.empty (Nat.le_refl _), (Below.refl _ _).alloc (Nat.le_refl _) _⟩
  case round =>
    obtain ⟨v, k, rfl, hk, rfl, ho, hb⟩ := hrel
    have hbs := hb.out.size
    by_cases hlt : k < n
    · go_wp2_with (at_builtin; refine wpList_append_own _ rfl _ _ 23 rfl w.heap.size 3 i0 (.int .i64 0) 1 8 Try.underlying23 hinf hz0 hz1 hz2 rfl (by decide) _ _ _ rfl (ho.out.alloc _) ⟨wr.heap.size, 0, none⟩ 1 1 [.int .i64 (k : Int)] rfl rfl (cell_one_new _ _ _) (by intro u hu; simp at hu; subst hu; rfl) (by unfold maxLen; omega) (by omega) (by simp; omega) ?_; intro v1 w1 hown1 hgrow1 _)
      have HO := Lib.hid hown1; have HGR := Lib.hid hgrow1; clear hown1 hgrow1
      go_wp2
      go_roundw
      case rel =>
        refine ⟨_, k + 1, rfl, by omega, by go_num, ?_, ?_⟩
        · have := HO.out
          have e : sameL (k + 1) = sameL k ++ [(k : Int)] := by simp [sameL, tab, List.range_succ]
          rw [Hid, e, ints, List.map_append]
          exact this
        · exact (hb.out.alloc hbs _).grown HGR.out (by simp; omega) (fun j hj => (ho.out.lt j hj).1)
      case measure => simp [intOf]; omega
    · have hkn : k = n := by omega
      subst hkn
      go_wp2
      go_ret
      refine ⟨_, rfl, ?_, hb.out⟩
      unfold Own
      rw [sameL, tab_len]
      exact ho.out

end Go.Proofs.Yteajaikgeephmaa

namespace Go.Proofs.Yteajaikgeephmaa
open Go.RowKit

set_option maxHeartbeats 400000 in
theorem sameInts_any (A A' : Option Addr) (n m c c' : Nat) (xs ys : List Int) (w : World) (h : Rd w A n xs) (h' : Rd w A' m ys) (hn : n ≤ maxLen) (hm : m ≤ maxLen) :
    Calls Try.prog 18 #[.slice A n c, .slice A' m c'] w fun e w' => e = .returned (.bool (eqB xs ys)) ∧ ∃ k, w' = w.drewN k := by
  unfold maxLen at hn hm
  have hxl := h.1
  have hyl := h'.1
  by_cases hnm : n = m
  · subst hnm
    have H := Lib.hid h; have H' := Lib.hid h'; clear h h'
    have Hx := Lib.hid hxl; have Hy := Lib.hid hyl; clear hxl hyl
    have ht : (((n : Nat) : Int) != n) = false := by simp
    go_enter Try.func18, Try.ntmps18
    go_wp2
    go_loopw [5] (fun i wr => ∃ k q : Nat, k ≤ n ∧ i = .int .i64 k ∧ wr = w.drewN q ∧ Hid (∀ j, j < k → gi xs j = gi ys j)) (fun i _ => n - (intOf i).toNat)
    case atStart => exact ⟨0, 0, Nat.zero_le _, rfl, rfl, fun j hj => absurd hj (by omega)⟩
    case round =>
      obtain ⟨k, q, hk, rfl, rfl, hall⟩ := hrel
      by_cases hlt : k < n
      · obtain ⟨ad, rfl, hc⟩ := H.out.at_ hlt
        obtain ⟨ad', rfl, hc'⟩ := H'.out.at_ hlt
        by_cases he : gi xs k = gi ys k
        · have he' : (gi xs k != gi ys k) = false := by simp [he]
          have HE := Lib.hid he; clear he
          go_wp2
          go_quiet (fail)
          go_wp2
          go_roundw
          case rel => exact ⟨k + 1, q + _, by omega, by go_num, rfl, fun j hj => by
            by_cases e : j = k
            · subst e; exact HE.out
            · exact hall.out j (by omega)⟩
          case measure => simp [intOf]; omega
        · have he' : (gi xs k != gi ys k) = true := by simp [he]
          have HE := Lib.hid he; clear he
          go_wp2
          go_quiet (fail)
          go_wp2
          go_ret
          exact ⟨ret_bool (by
            symm
            simp only [eqB, decide_eq_false_iff_not]
            intro e; exact HE.out (by rw [e])), q + _, World.drewN_drewN _ _ _⟩
      · go_wp2
        go_ret
        exact ⟨ret_bool (eqB_true (eq_of_gi (by rw [Hx.out, Hy.out]) (fun j hj => hall.out j (by rw [Hx.out] at hj; omega)))).symm, _, rfl⟩
  · have ht : (((n : Nat) : Int) != m) = true := by simp; omega
    have hne : eqB xs ys = false := by
      simp only [eqB, decide_eq_false_iff_not]
      intro e; apply hnm; rw [← hxl, ← hyl, e]
    have Hx := Lib.hid hne; clear hne hxl hyl h h'
    go_enter Try.func18, Try.ntmps18
    go_wp2
    go_ret
    exact ⟨ret_bool Hx.out.symm, 0, rfl⟩

theorem same_yes (w : World) (A A' : Option Addr) (n m c c' : Nat) (xs ys : List Int) (h : Rd w A n xs) (h' : Rd w A' m ys) (hn : n ≤ 1048576) (hm : m ≤ 1048576) (he : xs = ys) :
    Calls Try.prog 18 #[.slice A n c, .slice A' m c'] w fun e w' => e = .returned (.bool true) ∧ Below w.heap.size w w' := by
  refine (sameInts_any A A' n m c c' xs ys w h h' (by unfold maxLen; omega) (by unfold maxLen; omega)).mono ?_
  rintro e w1 ⟨rfl, k, rfl⟩
  exact ⟨ret_bool (eqB_true he), below_drewN (Below.refl _ _) k⟩
theorem same_map_yes (w : World) (A A' B B' : Option Addr) (n n' c c' m m' d d' : Nat) (t f t' f' : List Int) (h : Rd w A n t) (h' : Rd w A' n' f) (k : Rd w B m t') (k' : Rd w B' m' f') (hn : n ≤ 1048576) (hn' : n' ≤ 1048576) (hm : m ≤ 1048576) (hm' : m' ≤ 1048576) (he : t = t') (he' : f = f') :
    Calls Try.prog 35 #[.agg #[.slice A n c, .slice A' n' c'], .agg #[.slice B m d, .slice B' m' d']] w fun e w' => e = .returned (.bool true) ∧ Below w.heap.size w w' := by
  have H := Lib.hid h; have H' := Lib.hid h'; have K := Lib.hid k; have K' := Lib.hid k'; have HE := Lib.hid he; have HE' := Lib.hid he'; clear h h' k k' he he'
  obtain ⟨W0, hW0⟩ : ∃ W0, (w.alloc (.cells #[.slice A n c, .slice A' n' c'] 35)).alloc (.cells #[.slice B m d, .slice B' m' d'] 35) = W0 := ⟨_, rfl⟩
  have hx0 : Box W0 w.heap.size 35 (.slice A n c) (.slice A' n' c') := by
    rw [← hW0]; exact (Box.new w _ _ _).below ((Below.refl _ _).alloc (Nat.le_refl _) _)
  have hx1 : Box W0 (w.heap.size + 1) 35 (.slice B m d) (.slice B' m' d') := by
    rw [← hW0]
    have := Box.new (w.alloc (.cells #[.slice A n c, .slice A' n' c'] 35)) 35 (.slice B m d) (.slice B' m' d')
    rwa [World.size_alloc] at this
  have HB0 : Hid (Below w.heap.size w W0) := by rw [← hW0]; exact ((Below.refl _ _).alloc (Nat.le_refl _) _).alloc (by simp) _
  have c0 := hx0.cell0
  have c1 := hx0.cell1
  have c2 := hx1.cell0
  have c3 := hx1.cell1
  clear hx0 hx1
  go_enter Try.func35, Try.ntmps35
  go_wp2_with fail
  refine (sameInts_any A B n m c d t t' W0 (H.out.below HB0.out) (K.out.below HB0.out) (by unfold maxLen; omega) (by unfold maxLen; omega)).mono ?_
  rintro e w1 ⟨rfl, q, rfl⟩
  rw [eqB_true HE.out]
  go_wp2_with fail
  refine (sameInts_any A' B' n' m' c' d' f f' (W0.drewN q) ((H'.out.below HB0.out).drewN q) ((K'.out.below HB0.out).drewN q) (by unfold maxLen; omega) (by unfold maxLen; omega)).mono ?_
  rintro e w1 ⟨rfl, q', rfl⟩
  rw [eqB_true HE'.out]
  go_wp2_with fail
  go_ret
  exact ⟨rfl, below_drewN HB0.out _⟩

theorem stayC_any (w : World) (n : Nat) (hn : n ≤ 1048576) :
    Calls Try.prog 19 #[.int .i64 n] w fun e w' => ∃ v, e = .returned v ∧ Own w' w.heap.size v (sameL n) ∧ Below w.heap.size w w' := stayOf_any n w hn

/-- The numbers from 0 on, by so many further, round. -/
def mixL (n k : Nat) : List Int := tab n fun i => (((i + k) % n : Nat) : Int)
theorem mixL_len (n k : Nat) : (mixL n k).length = n := tab_len _ _
theorem mixL_vld {n k : Nat} (h1 : 1 ≤ n) (h12 : n ≤ 12) : Vld (mixL n k) := by
  have hg : ∀ j, j < n → gi (mixL n k) j = (((j + k) % n : Nat) : Int) := fun j hj => gi_tab hj
  refine ⟨by rw [mixL_len]; exact h1, by rw [mixL_len]; exact h12, fun j hj => ?_, fun j hj i hij e => ?_⟩
  · rw [mixL_len] at hj ⊢
    rw [hg j hj]
    have := Nat.mod_lt (j + k) (show 0 < n by omega)
    omega
  · rw [mixL_len] at hj
    rw [hg j hj, hg i (by omega)] at e
    have e' : (i + k) % n = (j + k) % n := by omega
    have h1 := Nat.div_add_mod (i + k) n
    have h2 := Nat.div_add_mod (j + k) n
    have h3 : (i + k) / n ≤ (j + k) / n := Nat.div_le_div_right (by omega)
    by_cases hq : (i + k) / n = (j + k) / n
    · rw [hq] at h1; omega
    · have h4 : n * ((i + k) / n) + n ≤ n * ((j + k) / n) := by
        have : (i + k) / n + 1 ≤ (j + k) / n := by omega
        calc n * ((i + k) / n) + n = n * ((i + k) / n + 1) := by rw [Nat.mul_add, Nat.mul_one]
          _ ≤ n * ((j + k) / n) := Nat.mul_le_mul_left _ this
      omega

set_option maxHeartbeats 800000 in
theorem mixOf_any (n k : Nat) (w : World) (h1 : 1 ≤ n) (hn : n ≤ 1048576) (hk : k ≤ 1048576) :
    Calls Try.prog 36 #[.int .i64 n, .int .i64 k] w fun e w' => ∃ v, e = .returned v ∧ Own w' w.heap.size v (mixL n k) ∧ Below w.heap.size w w' := by
  obtain ⟨i0, hinf, hz0, hz1, hz2⟩ := info_parts info_int
  go_enter Try.func36, Try.ntmps36
  go_wp2_with fail
  go_loopw [5, 6] (fun v' i wr => ∃ (v : Value) (j : Nat) (ys : List Int), v = v' ∧ j ≤ n ∧ i = .int .i64 j ∧ Hid (ys.length = j) ∧ Hid (∀ q, q < j → gi ys q = (((q + k) % n : Nat) : Int)) ∧ Hid (wr.ownsRow w.heap.size 3 1 v j (ints ys)) ∧ Hid (Below w.heap.size w wr)) (fun _ i _ => n - (intOf i).toNat)
  case atStart => exact ⟨_, 0, [], rfl, Nat.zero_le _, rfl, rfl, fun q hq => absurd hq (by omega), Own.empty (Nat.le_refl _), (Below.refl _ _).alloc (Nat.le_refl _) _⟩
  case round =>
    obtain ⟨v, j, ys, rfl, hj, rfl, hl, hall, ho, hb⟩ := hrel
    have hbs := hb.out.size
    by_cases hlt : j < n
    · have ht : ((j : Int) + (k : Int)).tmod (n : Int) = (((j + k) % n : Nat) : Int) := rfl
      have hn0 : ¬ ((n : Int) = 0) := by omega
      have hn0' : ((n : Int) == 0) = false := by simp; omega
      obtain ⟨x, hx⟩ : ∃ x, (j + k) % n = x := ⟨_, rfl⟩
      have hxn : x < n := by rw [← hx]; exact Nat.mod_lt _ (by omega)
      have HX := Lib.hid hx
      rw [hx] at ht
      clear hx
      go_wp2_with (at_builtin; refine wpList_append_own _ rfl _ _ 23 rfl w.heap.size 3 i0 (.int .i64 0) 1 8 Try.underlying23 hinf hz0 hz1 hz2 rfl (by decide) _ _ _ rfl (ho.out.alloc _) ⟨wr.heap.size, 0, none⟩ 1 1 [.int .i64 (x : Int)] rfl rfl (cell_one_new _ _ _) (by intro u hu; simp at hu; subst hu; rfl) (by unfold maxLen; omega) (by omega) (by simp; omega) ?_; intro v1 w1 hown1 hgrow1 _)
      have HO := Lib.hid hown1; have HGR := Lib.hid hgrow1; clear hown1 hgrow1
      go_wp2
      go_roundw
      case rel =>
        refine ⟨_, j + 1, ys ++ [(x : Int)], rfl, by omega, by go_num, by simp [Hid, hl.out], fun q hq => ?_, ?_, ?_⟩
        · rw [gi_snoc _ _ _ (by rw [hl.out]; exact hq), hl.out]
          by_cases e : q = j
          · rw [if_pos e, e, HX.out]
          · rw [if_neg e]; exact hall.out q (by omega)
        · have := HO.out
          rw [Hid, ints, List.map_append]
          exact this
        · exact (hb.out.alloc hbs _).grown HGR.out (by simp; omega) (fun j hj => (ho.out.lt j hj).1)
      case measure => simp [intOf]; omega
    · have hjn : j = n := by omega
      subst hjn
      go_wp2
      go_ret
      refine ⟨_, rfl, ?_, hb.out⟩
      have e : ys = mixL j k := tab_ext hl.out (fun q hq => hall.out q hq)
      unfold Own
      rw [mixL_len, ← e]
      exact ho.out

theorem mixC_any (w : World) (n k : Nat) (h1 : 1 ≤ n) (hn : n ≤ 1048576) (hk : k ≤ 1048576) :
    Calls Try.prog 36 #[.int .i64 n, .int .i64 k] w fun e w' => ∃ v, e = .returned v ∧ Own w' w.heap.size v (mixL n k) ∧ Below w.heap.size w w' := mixOf_any n k w h1 hn hk
theorem validC_any (w : World) (A : Option Addr) (c n : Nat) (xs : List Int) (h : Rd w A n xs) (hn : n ≤ 1048576) :
    Calls Try.prog 67 #[.slice A n c] w fun e w' => e = .returned (.bool (vld xs)) ∧ Below w.heap.size w w' := implValid_any A n c xs w h (by omega)

set_option maxHeartbeats 800000 in
theorem two_any (w : World) (rb q : Nat) (hr : Reads w rb q) (hq : q ≤ 1000) :
    Calls Try.prog 61 #[.pointer (some ⟨rb, 0, none⟩)] w fun e w' => ∃ A n c xs A' n' c' ys, e = .returned (.tuple #[.slice A n c, .slice A' n' c']) ∧ Rd w' A n xs ∧ Rd w' A' n' ys ∧ n ≤ 1000 ∧ n' ≤ 1000 ∧ Below rb w w' := by
  have hlt0 := hr.lt
  have HR0 := Lib.hid hr; clear hr
  go_enter Try.func61, Try.ntmps61
  go_wp2_with fail
  refine (some_reads w rb q 8 HR0.out (by omega) (by omega) (by omega)).mono ?_
  rintro e w1 ⟨v, xs, rfl, o, hl, b, q1, hq1, r1⟩
  obtain ⟨n, hn⟩ : ∃ n, xs.length = n := ⟨_, rfl⟩
  rw [hn] at hl
  obtain ⟨A, c, rfl, -, -⟩ := o.form' hn
  have hs1 := b.size
  have HO1 := Lib.hid o; have HB1 := Lib.hid b; have HR1 := Lib.hid r1; have HN := Lib.hid hn; clear o b r1 hn HR0
  go_wp2_with fail
  refine (pick_reads w1 rb q1 HR1.out (by omega) 12 (by omega) (by omega)).mono ?_
  rintro e w2 ⟨z, rfl, hz, r2, g2⟩
  have hs2 := g2.size
  have HO2 : Hid (Own w2 w.heap.size (.slice A n c) xs) := HO1.out.gr g2 hlt0
  have HB2 : Hid (Gr rb w w2) := HB1.out.trans g2
  have HR2 := Lib.hid r2; clear r2 g2 HO1 HB1 HR1
  have fin : ∀ (w3 : World) (v : Value) (ys : List Int), Own w3 w2.heap.size v ys → Gr rb w2 w3 → ∃ A' c', v = .slice A' ys.length c' ∧ Rd w3 A n xs ∧ Rd w3 A' ys.length ys ∧ Below rb w w3 := fun w3 v ys o g => by
    obtain ⟨A', c', e, hrd, -⟩ := o.form
    exact ⟨A', c', e, (HO2.out.gr g hlt0).rd HN.out, hrd, (HB2.out.trans g).below (by omega)⟩
  have FIN := Lib.hid fin; clear fin
  by_cases hz0 : z = 0
  · subst hz0
    go_wp2_with fail
    refine (some_reads w2 rb (q1 + 1) 8 HR2.out (by omega) (by omega) (by omega)).mono ?_
    rintro e w3 ⟨v, ys, rfl, o, hl', b, -⟩
    obtain ⟨A', c', rfl, h1, h2, h3⟩ := FIN.out w3 v ys o b
    go_wp2_with fail
    go_ret2
    exact ⟨_, _, _, xs, _, _, _, ys, rfl, h1, h2, by omega, by omega, h3⟩
  have hd : ((z : Int) == 0) = false := by simp [hz0]
  by_cases hn0 : n = 0
  · subst hn0
    go_wp2_with fail
    refine (some_reads w2 rb (q1 + 1) 8 HR2.out (by omega) (by omega) (by omega)).mono ?_
    rintro e w3 ⟨v, ys, rfl, o, hl', b, -⟩
    obtain ⟨A', c', rfl, h1, h2, h3⟩ := FIN.out w3 v ys o b
    go_wp2_with fail
    go_ret2
    exact ⟨_, _, _, xs, _, _, _, ys, rfl, h1, h2, by omega, by omega, h3⟩
  · have hd' : ((n : Int) == 0) = false := by simp [hn0]
    go_wp2_with fail
    refine (perm_pl w2 rb (q1 + 1) n HR2.out (by omega) (by omega)).mono ?_
    rintro e w3 ⟨v, ys, rfl, o, hl', -, -, -, b⟩
    obtain ⟨A', c', rfl, h1, h2, h3⟩ := FIN.out w3 v ys o b
    rw [hl'] at h2
    go_wp2_with fail
    go_ret2
    exact ⟨_, _, _, xs, _, _, _, ys, rfl, h1, h2, by omega, by omega, h3⟩

end Go.Proofs.Yteajaikgeephmaa

namespace Go.Proofs.Yteajaikgeephmaa
open Go.RowKit

theorem Rd.get {w : World} {ad : Addr} {n : Nat} {xs : List Int} (h : Rd w (some ad) n xs) {j : Nat} (hj : j < n) : w.cell? (ad.add j) = some (.int .i64 (gi xs j)) := by
  obtain ⟨ad', e, hc⟩ := h.2 (by omega)
  injection e with e
  subst e
  exact hc j hj
theorem Rd.get0 {w : World} {ad : Addr} {n : Nat} {xs : List Int} (h : Rd w (some ad) n xs) (hn : 0 < n) : w.cell? ad = some (.int .i64 (gi xs 0)) := by
  have := h.get hn
  rwa [Addr.add_zero'] at this
theorem Rd.getg {w : World} {g n : Nat} {xs : List Int} (h : Rd w (some ⟨g, 0, none⟩) n xs) {j : Nat} (hj : j < n) : w.cell? ⟨g, j, none⟩ = some (.int .i64 (gi xs j)) := by
  have := h.get hj
  rwa [show (⟨g, 0, none⟩ : Addr).add j = ⟨g, j, none⟩ from by unfold Addr.add; split <;> simp_all] at this
theorem sum_take {xs : List Int} {k : Nat} (hk : k < xs.length) : (xs.take (k + 1)).sum = (xs.take k).sum + gi xs k := by
  rw [List.take_succ_eq_append_getElem hk, List.sum_append, gi_eq hk]; simp
theorem sumOf_w (w : World) (A : Option Addr) (n c : Nat) (xs : List Int) (h : Rd w A n xs) (hn : n ≤ 1000) (hb : ∀ j, j < n → 0 ≤ gi xs j ∧ gi xs j ≤ 1000) {r : Int} (hr : xs.sum = r) :
    Calls Try.prog 28 #[.slice A n c] w fun e w' => e = .returned (.int .i64 r) ∧ w = w' := by
  have H := Lib.hid h; have Hx := Lib.hid h.1; have HB := Lib.hid hb; have HR := Lib.hid hr; clear h hb hr
  go_enter Try.func28, Try.ntmps28
  go_wp2
  go_loop [3, 4] (fun sv iv => ∃ (k : Nat) (s : Int), k ≤ n ∧ iv = .int .i64 (k : Int) ∧ sv = .int .i64 s ∧ Hid (s = (xs.take k).sum) ∧ 0 ≤ s ∧ s ≤ 1000 * k) (fun _ iv => n - (intOf iv).toNat)
  case atStart => exact ⟨0, 0, Nat.zero_le _, rfl, rfl, by simp [Hid], by omega, by omega⟩
  case round =>
    obtain ⟨k, s, hk, rfl, rfl, hs, h0, h1⟩ := hrel
    by_cases hlt : k < n
    · obtain ⟨ad, rfl, hc⟩ := H.out.at_ hlt
      obtain ⟨hb0, hb1⟩ := HB.out k hlt
      obtain ⟨v, hv⟩ : ∃ v, gi xs k = v := ⟨_, rfl⟩
      rw [hv] at hc hb0 hb1
      have HS : Hid (s + v = (xs.take (k + 1)).sum) := by rw [Hid, sum_take (by rw [Hx.out]; exact hlt), hs.out, hv]
      clear hv
      go_wp2
      go_round
      case rel => exact ⟨k + 1, s + v, by omega, by go_num, rfl, HS.out, by omega, by omega⟩
      case measure => simp [intOf]; omega
    · have hkn : k = n := by omega
      have HE : Hid (s = r) := by rw [Hid, hs.out, hkn, ← Hx.out, List.take_length]; exact HR.out
      clear hkn
      go_wp2
      go_ret
      exact ⟨ret_int HE.out, rfl⟩
theorem sumB_any (w : World) (A : Option Addr) (n c : Nat) (xs : List Int) (h : Rd w A n xs) (hn : n ≤ 1000) (hb : ∀ j, j < n → 0 ≤ gi xs j ∧ gi xs j ≤ 1000) {r : Int} (hr : xs.sum = r) :
    Calls Try.prog 28 #[.slice A n c] w fun e w' => e = .returned (.int .i64 r) ∧ Below w.heap.size w w' :=
  (sumOf_w w A n c xs h hn hb hr).mono fun _ _ ⟨h1, h2⟩ => ⟨h1, h2 ▸ Below.refl _ _⟩

theorem same_map_b (w : World) (A A' B B' : Option Addr) (n n' c c' m m' d d' : Nat) (t f t' f' : List Int) (h : Rd w A n t) (h' : Rd w A' n' f) (k : Rd w B m t') (k' : Rd w B' m' f') (hn : n ≤ 1048576) (hn' : n' ≤ 1048576) (hm : m ≤ 1048576) (hm' : m' ≤ 1048576) {r : Bool} (hr : (eqB t t' && eqB f f') = r) :
    Calls Try.prog 35 #[.agg #[.slice A n c, .slice A' n' c'], .agg #[.slice B m d, .slice B' m' d']] w fun e w' => e = .returned (.bool r) ∧ Below w.heap.size w w' := by
  have H := Lib.hid h; have H' := Lib.hid h'; have K := Lib.hid k; have K' := Lib.hid k'; clear h h' k k'
  obtain ⟨W0, hW0⟩ : ∃ W0, (w.alloc (.cells #[.slice A n c, .slice A' n' c'] 35)).alloc (.cells #[.slice B m d, .slice B' m' d'] 35) = W0 := ⟨_, rfl⟩
  have hx0 : Box W0 w.heap.size 35 (.slice A n c) (.slice A' n' c') := by
    rw [← hW0]; exact (Box.new w _ _ _).below ((Below.refl _ _).alloc (Nat.le_refl _) _)
  have hx1 : Box W0 (w.heap.size + 1) 35 (.slice B m d) (.slice B' m' d') := by
    rw [← hW0]
    have := Box.new (w.alloc (.cells #[.slice A n c, .slice A' n' c'] 35)) 35 (.slice B m d) (.slice B' m' d')
    rwa [World.size_alloc] at this
  have HB0 : Hid (Below w.heap.size w W0) := by rw [← hW0]; exact ((Below.refl _ _).alloc (Nat.le_refl _) _).alloc (by simp) _
  have c0 := hx0.cell0
  have c1 := hx0.cell1
  have c2 := hx1.cell0
  have c3 := hx1.cell1
  have HR := Lib.hid hr
  clear hx0 hx1 hr
  by_cases ht : t = t'
  · have HT := Lib.hid ht
    have HR' : Hid (eqB f f' = r) := by have := HR.out; rwa [eqB_true ht, Bool.true_and] at this
    clear ht
    go_enter Try.func35, Try.ntmps35
    go_wp2_with fail
    refine (sameInts_any A B n m c d t t' W0 (H.out.below HB0.out) (K.out.below HB0.out) (by unfold maxLen; omega) (by unfold maxLen; omega)).mono ?_
    rintro e w1 ⟨rfl, q, rfl⟩
    rw [eqB_true HT.out]
    go_wp2_with fail
    refine (sameInts_any A' B' n' m' c' d' f f' (W0.drewN q) ((H'.out.below HB0.out).drewN q) ((K'.out.below HB0.out).drewN q) (by unfold maxLen; omega) (by unfold maxLen; omega)).mono ?_
    rintro e w1 ⟨rfl, q', rfl⟩
    rw [HR'.out]
    go_wp2_with fail
    go_ret
    exact ⟨rfl, below_drewN HB0.out _⟩
  · have hf : eqB t t' = false := by simp only [eqB, decide_eq_false_iff_not]; exact ht
    have HF := Lib.hid hf
    have HR' : Hid (false = r) := by have := HR.out; rwa [hf, Bool.false_and] at this
    clear ht hf
    go_enter Try.func35, Try.ntmps35
    go_wp2_with fail
    refine (sameInts_any A B n m c d t t' W0 (H.out.below HB0.out) (K.out.below HB0.out) (by unfold maxLen; omega) (by unfold maxLen; omega)).mono ?_
    rintro e w1 ⟨rfl, q, rfl⟩
    rw [HF.out]
    go_wp2_with fail
    go_ret
    exact ⟨ret_bool HR'.out, below_drewN HB0.out _⟩

end Go.Proofs.Yteajaikgeephmaa

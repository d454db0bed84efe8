/-
  The draws: a reader over the code's bytes, and what it picks.
  The draws: permutations, and lists that are seldom none.
  The draws of small numbers: edges, genera, degrees.
-/
import Derived.Test.YtcenffndclpjoaaSeen
import Derived.Deep.RegionWith
namespace Go.Proofs.Ytcenffndclpjoaa
open Go.RowKit
attribute [local go_sem] Oper.semAt_some

/-- The slice of n bytes at A reads as bs. -/
def RdB (w : World) (A : Option Addr) (n : Nat) (bs : List Int) : Prop :=
  bs.length = n ∧ (0 < n → ∃ ad : Addr, A = some ad ∧ ∀ j, j < n → w.cell? (ad.add j) = some (.int .u8 (gi bs j))) ∧ ∀ j, j < n → 0 ≤ gi bs j ∧ gi bs j ≤ 255

/-- The reader at block rb, q bytes on. -/
def AtR (w : World) (rb : Nat) (A : Option Addr) (L c q : Nat) : Prop := w.heap[rb]? = some (.cells #[.slice A L c, .int .i64 q] 75 (0, 0))

theorem xor_nat (a b : Nat) (ha : a < 4611686018427387904) (hb : b < 4611686018427387904) : bits .xor .i64 (a : Int) (b : Int) = ((a ^^^ b : Nat) : Int) := by
  have hx : a ^^^ b < 2 ^ 62 := Nat.xor_lt_two_pow (by omega) (by omega)
  have h1 : (BitVec.ofInt 64 (a : Int)).toNat = a := by
    rw [BitVec.ofInt_natCast, BitVec.toNat_ofNat]; exact Nat.mod_eq_of_lt (by omega)
  have h2 : (BitVec.ofInt 64 (b : Int)).toNat = b := by
    rw [BitVec.ofInt_natCast, BitVec.toNat_ofNat]; exact Nat.mod_eq_of_lt (by omega)
  show IntKind.i64.wrap ((BitVec.ofInt 64 (a : Int) ^^^ BitVec.ofInt 64 (b : Int)).toNat : Int) = _
  rw [BitVec.toNat_xor, h1, h2]
  exact IntWalk.i64_in _ (by omega)
theorem mix_pos (X n : Int) (h0 : 0 ≤ X) (h1 : X < 4611686018427387904) (hn : 1 ≤ n) : 0 ≤ (bits .xor .i64 X (X / 64)).tmod n ∧ (bits .xor .i64 X (X / 64)).tmod n < n := by
  obtain ⟨x, rfl⟩ : ∃ x : Nat, X = (x : Int) := ⟨X.toNat, by omega⟩
  have d : ((x : Int) / 64) = ((x / 64 : Nat) : Int) := by omega
  rw [d, xor_nat _ _ (by omega) (by omega), Int.tmod_eq_emod_of_nonneg (by omega)]
  exact ⟨Int.emod_nonneg _ (by omega), Int.emod_lt_of_pos _ (by omega)⟩

theorem open_any (w : World) (A : Option Addr) (n c : Nat) (hn : n ≤ 1048576) (hc : n ≤ c) :
    Calls Try.prog 29 #[.slice A n c] w fun e w' => e = .returned (.pointer (some ⟨w.heap.size, 0, none⟩)) ∧ ∃ L, L ≤ 2000 ∧ L ≤ n ∧ w' = w.alloc (.cells #[.slice A L c, .int .i64 0] 75) := by
  by_cases h2 : 2000 < n
  · have hd : decide ((2000 : Int) < n) = true := by simp; omega
    go_enter Try.func29, Try.ntmps29
    go_wp2
    go_ret
    exact ⟨rfl, 2000, by omega, by omega, rfl⟩
  · have hd : decide ((2000 : Int) < n) = false := by simp; omega
    go_enter Try.func29, Try.ntmps29
    go_wp2
    go_ret
    exact ⟨rfl, n, by omega, Nat.le_refl _, rfl⟩

set_option maxRecDepth 100000 in
theorem pick_any (w : World) (rb : Nat) (A : Option Addr) (L c q : Nat) (bs : List Int) (hr : AtR w rb A L c q) (hB : RdB w A L bs) (hL : L ≤ 2000) (hq : q ≤ 1000000) (hA : ∀ ad : Addr, A = some ad → 0 < L → ad.block ≠ rb) (n : Int) (hn : 1 ≤ n) (hn2 : n ≤ 1000000) :
    Calls Try.prog 57 #[.pointer (some ⟨rb, 0, none⟩), .int .i64 n] w fun e w' => ∃ x : Int, e = .returned (.int .i64 x) ∧ 0 ≤ x ∧ x < n ∧ ∃ d, w' = (w.setCell ⟨rb, 1, none⟩ (.int .i64 ((q : Int) + 1))).drewN d := by
  have hc0 : w.cell? ⟨rb, 0, none⟩ = some (.slice A L c) := by rw [cell_of_row w rb 0 _ _ (0, 0) hr]; rfl
  have hc1 : w.cell? ⟨rb, 1, none⟩ = some (.int .i64 q) := by rw [cell_of_row w rb 1 _ _ (0, 0) hr]; rfl
  have hf1 : w.frozen? ⟨rb, 1, none⟩ = false := frozen_of_row w rb 1 _ _ hr
  have hd1 : decide (n < 1) = false := by simp; omega
  by_cases h0 : L = 0
  · subst h0
    go_enter Try.func57, Try.ntmps57
    go_wp2
    go_ret
    exact ⟨0, rfl, by omega, by omega, 0, rfl⟩
  obtain ⟨ad, rfl, hcs⟩ := hB.2.1 (by omega)
  have hne := hA ad rfl (by omega)
  have hL0 : ((L : Int) == 0) = false := by simp; omega
  have hrd : ∀ j : Nat, j < L → (w.setCell ⟨rb, 1, none⟩ (.int .i64 ((q : Int) + 1))).cell? (ad.add j) = some (.int .u8 (gi bs j)) := fun j hj => by
    exact (show _ = w.cell? (ad.add j) from by rw [World.cell?_setCell_other]; intro e; exact hne (by rw [← add_block ad j, ← e])).trans (hcs j hj)
  have hby := hB.2.2
  have HRD := Lib.hid hrd; have HBY := Lib.hid hby
  by_cases hlt : q < L
  · have hd2 : decide (q < L) = true := by simpa using hlt
    have hc2 := hrd q hlt
    obtain ⟨hb1, hb2⟩ := hby q hlt
    obtain ⟨bb, hbb⟩ : ∃ bb, gi bs q = bb := ⟨_, rfl⟩
    rw [hbb] at hc2 hb1 hb2
    clear hrd hby hcs
    have hm : bb.tmod n = bb % n := Int.tmod_eq_emod_of_nonneg hb1
    have hm1 := Int.emod_nonneg bb (show n ≠ 0 by omega)
    have hm2 := Int.emod_lt_of_pos bb (show 0 < n by omega)
    go_enter Try.func57, Try.ntmps57
    go_wp2
    go_ret
    exact ⟨_, rfl, hm1, hm2, 0, rfl⟩
  · have hd2 : decide (q < L) = false := by simpa using hlt
    clear hrd hby hcs
    have hL1 : ¬ ((L : Int) = 0) := by omega
    have hL2 : ¬ L = 0 := h0
    have ht1 : (q : Int).tmod (L : Int) = ((q % L : Nat) : Int) := rfl
    have ht2 : ((q : Int) * 7 + 3).tmod (L : Int) = (((q * 7 + 3) % L : Nat) : Int) := rfl
    have ht3 : (q : Int).tdiv (L : Int) = ((q / L : Nat) : Int) := rfl
    obtain ⟨i1, hi1⟩ : ∃ i, q % L = i := ⟨_, rfl⟩
    obtain ⟨i2, hi2⟩ : ∃ i, (q * 7 + 3) % L = i := ⟨_, rfl⟩
    obtain ⟨i3, hi3⟩ : ∃ i, q / L = i := ⟨_, rfl⟩
    have hl1 : i1 < L := by rw [← hi1]; exact Nat.mod_lt _ (by omega)
    have hl2 : i2 < L := by rw [← hi2]; exact Nat.mod_lt _ (by omega)
    have hl3 : i3 ≤ q := by rw [← hi3]; exact Nat.div_le_self _ _
    rw [hi1] at ht1; rw [hi2] at ht2; rw [hi3] at ht3
    have hc2 := HRD.out i1 hl1
    have hc3 := HRD.out i2 hl2
    obtain ⟨hb1, hb2⟩ := HBY.out i1 hl1
    obtain ⟨hb3, hb4⟩ := HBY.out i2 hl2
    obtain ⟨b1, e1⟩ : ∃ bb, gi bs i1 = bb := ⟨_, rfl⟩
    obtain ⟨b2, e2⟩ : ∃ bb, gi bs i2 = bb := ⟨_, rfl⟩
    rw [e1] at hc2 hb1 hb2; rw [e2] at hc3 hb3 hb4
    clear hi1 hi2 hi3 e1 e2
    go_enter Try.func57, Try.ntmps57
    go_wp2
    go_quiet (fail)
    have hmx := mix_pos (b1 * 131 + b2 * 1117 + q * 29 + i3 * 53) n (by omega) (by omega) hn
    go_wp2
    go_ret
    exact ⟨_, rfl, hmx.1, hmx.2, _, rfl⟩

end Go.Proofs.Ytcenffndclpjoaa

namespace Go.Proofs.Ytcenffndclpjoaa
open Go.RowKit

/-- A reader at block rb, q bytes on, its bytes in blocks below it. -/
def Reads (w : World) (rb q : Nat) : Prop := ∃ A L c bs, AtR w rb A L c q ∧ RdB w A L bs ∧ L ≤ 2000 ∧ ∀ ad : Addr, A = some ad → 0 < L → ad.block < rb
theorem Reads.lt {w : World} {rb q : Nat} (h : Reads w rb q) : rb < w.heap.size := by
  obtain ⟨A, L, c, bs, h1, _⟩ := h
  exact (Array.getElem?_eq_some_iff.1 h1).1
theorem Reads.below {w w' : World} {rb q : Nat} (h : Reads w rb q) (hb : Below (rb + 1) w w') : Reads w' rb q := by
  obtain ⟨A, L, c, bs, h1, h2, h3, h4⟩ := h
  refine ⟨A, L, c, bs, (hb.block rb (by omega)).trans h1, ⟨h2.1, fun hL => ?_, h2.2.2⟩, h3, h4⟩
  obtain ⟨ad, e, hc⟩ := h2.2.1 hL
  refine ⟨ad, e, fun j hj => (World.cell?_of_block ?_).trans (hc j hj)⟩
  rw [add_block]
  exact hb.block _ (by have := h4 ad e hL; omega)
theorem pick_reads (w : World) (rb q : Nat) (hr : Reads w rb q) (hq : q ≤ 1000000) (n : Int) (hn : 1 ≤ n) (hn2 : n ≤ 1000000) :
    Calls Try.prog 57 #[.pointer (some ⟨rb, 0, none⟩), .int .i64 n] w fun e w' => ∃ x : Nat, e = .returned (.int .i64 x) ∧ (x : Int) < n ∧ Reads w' rb (q + 1) ∧ w.grownBy w' (some rb) := by
  obtain ⟨A, L, c, bs, h1, h2, h3, h4⟩ := hr
  refine (pick_any w rb A L c q bs h1 h2 h3 hq (fun ad e hL => by have := h4 ad e hL; omega) n hn hn2).mono ?_
  rintro e w' ⟨x, rfl, hx0, hx1, d, rfl⟩
  obtain ⟨k, rfl⟩ : ∃ k : Nat, x = k := ⟨x.toNat, by omega⟩
  have hg : w.grownBy (w.setCell ⟨rb, 1, none⟩ (.int .i64 ((q : Int) + 1))) (some rb) := grown_set _ _ _ _
  have hg' : w.grownBy ((w.setCell ⟨rb, 1, none⟩ (.int .i64 ((q : Int) + 1))).drewN d) (some rb) := ⟨hg.os, hg.tape, hg.output, hg.size, hg.block⟩
  refine ⟨k, rfl, hx1, ⟨A, L, c, bs, ?_, ⟨h2.1, fun hL => ?_, h2.2.2⟩, h3, h4⟩, hg'⟩
  · show (w.setCell ⟨rb, 1, none⟩ (.int .i64 ((q : Int) + 1))).heap[rb]? = _
    unfold AtR at h1
    simp [World.setCell, Array.getElem?_modify, h1]
  · obtain ⟨ad, e, hc⟩ := h2.2.1 hL
    refine ⟨ad, e, fun j hj => (World.cell?_of_block ?_).trans (hc j hj)⟩
    rw [add_block]
    have := h4 ad e hL
    exact hg'.block _ (by have := (Array.getElem?_eq_some_iff.1 h1).1; omega) (by intro e; injection e with e; omega)

/-- What is not the reader's stays as it is. -/
def Gr (rb : Nat) (w w' : World) : Prop := w.grownBy w' (some rb)
theorem Gr.refl (rb : Nat) (w : World) : Gr rb w w := ⟨rfl, rfl, rfl, Nat.le_refl _, fun _ _ _ => rfl⟩
theorem Gr.trans {rb : Nat} {a b c : World} (h : Gr rb a b) (k : Gr rb b c) : Gr rb a c := grownBy_trans h k
theorem Gr.size {rb : Nat} {a b : World} (h : Gr rb a b) : a.heap.size ≤ b.heap.size := World.grownBy.size h
theorem Gr.own {rb : Nat} {a b c : World} {row : Option Nat} (h : Gr rb a b) (g : b.grownBy c row) (hr : ∀ k, row = some k → a.heap.size ≤ k) : Gr rb a c :=
  ⟨g.os.trans (World.grownBy.os h), g.tape.trans (World.grownBy.tape h), g.output.trans (World.grownBy.output h), Nat.le_trans h.size g.size, fun k hk hne =>
    (g.block k (Nat.lt_of_lt_of_le hk h.size) (fun e => by have := hr k e.symm; omega)).trans (World.grownBy.block h k hk hne)⟩
theorem Gr.of_below {rb : Nat} {a b c : World} (h : Gr rb a b) (k : Below b.heap.size b c) : Gr rb a c := h.own (row := none) ⟨k.os, k.tape, k.output, k.size, fun j hj _ => k.block j hj⟩ (fun _ e => by cases e)
theorem Gr.alloc {rb : Nat} {a b : World} (h : Gr rb a b) (o : Obj) : Gr rb a (b.alloc o) := h.of_below ((Below.refl _ _).alloc (Nat.le_refl _) o)
theorem Gr.below {rb : Nat} {a b : World} (h : Gr rb a b) (hr : rb ≤ a.heap.size) : Below rb a b := (Below.refl rb a).grown h hr (fun k e => by cases e; exact Nat.le_refl _)
/-- A row made since stays over what the reader does. -/
theorem Own.gr {w w' : World} {lo rb : Nat} {v : Value} {xs : List Int} (h : Own w lo v xs) (hg : Gr rb w w') (hr : rb < lo) : Own w' lo v xs :=
  h.grown hg (by
    cases hv : v.ownBlock with
    | none => exact .inl rfl
    | some j => exact .inr (by intro e; injection e with e; have := (h.lt j hv).1; omega))
theorem Rd.gr {w w' : World} {rb n : Nat} {A : Option Addr} {xs : List Int} (h : Rd w A n xs) (hg : Gr rb w w') (hA : ∀ ad : Addr, A = some ad → 0 < n → ad.block ≠ rb) : Rd w' A n xs :=
  ⟨h.1, fun hn => by
    obtain ⟨ad, e, hc⟩ := h.2 hn
    refine ⟨ad, e, fun j hj => (World.cell?_of_block ?_).trans (hc j hj)⟩
    have hb := World.block_lt_of_cell? w _ (hc j hj)
    rw [add_block] at hb ⊢
    exact World.grownBy.block hg _ hb (by intro e'; injection e' with e'; exact hA ad e hn e')⟩

/-- As many numbers as there are places, none twice. -/
def PL (ys : List Int) : Prop := (∀ j, j < ys.length → 0 ≤ gi ys j ∧ gi ys j < ys.length) ∧ ∀ j, j < ys.length → ∀ i, i < j → gi ys i ≠ gi ys j
theorem PL.nil_ : PL [] := ⟨fun j hj => absurd hj (by simp), fun j hj => absurd hj (by simp)⟩
theorem PL.vld {ys : List Int} (h : PL ys) (h1 : 1 ≤ ys.length) (h12 : ys.length ≤ 12) : Vld ys := ⟨h1, h12, h.1, h.2⟩
theorem gi_snoc (ys : List Int) (x : Int) (j : Nat) (hj : j < ys.length + 1) : gi (ys ++ [x]) j = if j = ys.length then x else gi ys j := by
  by_cases e : j = ys.length
  · subst e; simp [gi, List.getD]
  · rw [if_neg e]; simp [gi, List.getD, List.getElem?_append_left (show j < ys.length by omega)]
theorem PL.last {ys : List Int} (h : PL ys) : PL (ys ++ [(ys.length : Int)]) := by
  constructor
  · intro j hj
    simp only [List.length_append, List.length_cons, List.length_nil] at hj ⊢
    rw [gi_snoc _ _ _ (by omega)]
    split
    · omega
    · have := h.1 j (by omega); omega
  · intro j hj i hij
    simp only [List.length_append, List.length_cons, List.length_nil] at hj
    rw [gi_snoc _ _ _ (by omega), gi_snoc _ _ _ (by omega), if_neg (by omega)]
    split
    · have := h.1 i (by omega); omega
    · exact h.2 j (by omega) i hij
theorem PL.swap {ys : List Int} (h : PL ys) {x : Nat} (hx : x < ys.length) : PL ((ys ++ [gi ys x]).set x (ys.length : Int)) := by
  have hl : ((ys ++ [gi ys x]).set x (ys.length : Int)).length = ys.length + 1 := by simp
  have key : ∀ j, j < ys.length + 1 → gi ((ys ++ [gi ys x]).set x (ys.length : Int)) j = if j = x then (ys.length : Int) else if j = ys.length then gi ys x else gi ys j := fun j hj => by
    rw [gi_set _ _ _ _ (by simp; omega), gi_snoc _ _ _ hj]
  constructor
  · intro j hj
    rw [hl] at hj ⊢
    rw [key j hj]
    split
    · omega
    · split
      · have := h.1 x hx; omega
      · have := h.1 j (by omega); omega
  · intro j hj i hij
    rw [hl] at hj
    rw [key j hj, key i (by omega)]
    have hb : ∀ k, k < ys.length → gi ys k ≠ (ys.length : Int) := fun k hk => by have := h.1 k hk; omega
    by_cases e1 : i = x
    · rw [if_pos e1, if_neg (by omega)]
      split
      · exact fun e => hb x hx e.symm
      · exact fun e => hb j (by omega) e.symm
    · rw [if_neg e1, if_neg (by omega : ¬ i = ys.length)]
      by_cases e2 : j = x
      · rw [if_pos e2]; exact hb i (by omega)
      · rw [if_neg e2]
        by_cases e3 : j = ys.length
        · rw [if_pos e3]
          rcases Nat.lt_or_gt_of_ne e1 with hlt | hlt
          · exact h.2 x hx i hlt
          · exact fun e => h.2 i (by omega) x hlt e.symm
        · rw [if_neg e3]; exact h.2 j (by omega) i hij

set_option maxRecDepth 100000 in
set_option maxHeartbeats 1600000 in
theorem perm_pl (w : World) (rb q m : Nat) (hr : Reads w rb q) (hq : q ≤ 900000) (hm : m ≤ 1000) :
    Calls Try.prog 69 #[.pointer (some ⟨rb, 0, none⟩), .int .i64 m] w fun e w' => ∃ v ys, e = .returned v ∧ Own w' w.heap.size v ys ∧ ys.length = m ∧ Reads w' rb (q + m) ∧ Below rb w w' ∧ PL ys ∧ Gr rb w w' := by
  obtain ⟨i0, hinf, hz0, hz1, hz2⟩ := info_parts info_int
  have hlt0 := hr.lt
  have HR0 := Lib.hid hr; clear hr
  go_enter Try.func69, Try.ntmps69
  go_wp2_with fail
  go_loopw [5, 6] (fun v' i wr => ∃ (v : Value) (k : Nat) (ys : List Int), v = v' ∧ k ≤ m ∧ i = .int .i64 k ∧ Hid (Own wr w.heap.size v ys) ∧ Hid (ys.length = k) ∧ Hid (Reads wr rb (q + k)) ∧ Hid (Gr rb w wr) ∧ Hid (PL ys)) (fun _ i _ => m - (intOf i).toNat)
  case atStart =>
    have hb := (Below.refl (rb + 1) w).alloc hlt0 (.cells #[] 3)
    exact ⟨_, 0, [], rfl, Nat.zero_le _, rfl, Own.empty (Nat.le_refl _), rfl, HR0.out.below hb, (Gr.refl rb w).alloc _, PL.nil_⟩
  case round =>
    obtain ⟨v, k, ys, rfl, hk, rfl, ho, hyl, hrd, hb, hpl⟩ := hrel
    have hbs := hb.out.size
    by_cases hlt : k < m
    · go_wp2_with fail
      refine (pick_reads wr rb (q + k) hrd.out (by omega) ((k : Int) + 1) (by omega) (by omega)).mono ?_
      rintro e w1 ⟨x, rfl, hx, r1, g1⟩
      have ho1 : Own w1 w.heap.size v ys := ho.out.grown g1 (by
        cases hv : v.ownBlock with
        | none => exact .inl rfl
        | some j => exact .inr (by intro e; injection e with e; have := (ho.out.lt j hv).1; omega))
      have hb1 : Gr rb w w1 := hb.out.trans g1
      have hs1 := g1.size
      have HO1 : Hid (w1.ownsRow w.heap.size 3 1 v k (ints ys)) := by have h := ho1; unfold Own at h; rwa [hyl.out] at h
      have HR1 := Lib.hid r1; have HB1 := Lib.hid hb1; clear r1 hb1 ho1 g1
      by_cases hxk : x = k
      · subst hxk
        go_wp2_with (at_builtin; refine wpList_append_own _ rfl _ _ 23 rfl w.heap.size 3 i0 (.int .i64 0) 1 8 Try.underlying23 hinf hz0 hz1 hz2 rfl (by decide) _ _ _ rfl (HO1.out.alloc _) ⟨w1.heap.size, 0, none⟩ 1 1 [.int .i64 (x : Int)] rfl rfl (cell_one_new _ _ _) (by intro u hu; simp at hu; subst hu; rfl) (by unfold maxLen; omega) (by omega) (by simp; omega) ?_; intro v1 w2 hown1 hgrow1 _)
        have HO := Lib.hid hown1; have HGR := Lib.hid hgrow1; clear hown1 hgrow1
        go_wp2
        go_roundw
        case rel =>
          have hlow : ∀ j, v.ownBlock = some j → rb + 1 ≤ j := fun j hj => by have := (HO1.out.lt j hj).1; omega
          have hst : Below (rb + 1) w1 w2 := ((Below.refl (rb + 1) w1).alloc (by omega) _).grown HGR.out (by simp; omega) hlow
          refine ⟨_, x + 1, ys ++ [(x : Int)], rfl, by omega, by go_num, ?_, by simp [Hid, hyl.out], HR1.out.below hst, (HB1.out.alloc _).own HGR.out (fun j hj => (HO1.out.lt j hj).1), by have := hpl.out.last; rwa [hyl.out] at this⟩
          have := HO.out
          rw [Hid, Own, List.length_append, hyl.out, ints, List.map_append]
          exact this
        case measure => simp [intOf]; omega
      · have hxl : x < k := by omega
        have hne : ((x : Int) == (k : Int)) = false := by simp; omega
        obtain ⟨A, c, rfl, -, -⟩ : ∃ A c, v = .slice A k c ∧ True ∧ True := by
          have h : Own w1 w.heap.size v ys := by unfold Own; rw [hyl.out]; exact HO1.out
          obtain ⟨A, c, e, _, _⟩ := h.form' hyl.out
          exact ⟨A, c, e, trivial, trivial⟩
        have HOW : Hid (Own w1 w.heap.size (.slice A k c) ys) := by have h := HO1.out; unfold Hid Own; rw [hyl.out]; exact h
        obtain ⟨g, rfl, hgl, hcx, hfx⟩ := HOW.out.cellAt hyl.out hxl
        obtain ⟨y, hy⟩ : ∃ y, gi ys x = y := ⟨_, rfl⟩
        have HGY := Lib.hid hy
        rw [hy] at hcx
        go_wp2_with (at_builtin; refine wpList_append_own _ rfl _ _ 23 rfl w.heap.size 3 i0 (.int .i64 0) 1 8 Try.underlying23 hinf hz0 hz1 hz2 rfl (by decide) _ _ _ rfl (HO1.out.alloc _) ⟨w1.heap.size, 0, none⟩ 1 1 [.int .i64 y] rfl rfl (cell_one_new _ _ _) (by intro u hu; simp at hu; subst hu; rfl) (by unfold maxLen; omega) (by omega) (by simp; omega) ?_; intro v1 w2 hown1 hgrow1 _)
        have HO : Hid (Own w2 w.heap.size v1 (ys ++ [y])) := by
          rw [Hid, Own, List.length_append, hyl.out, ints, List.map_append]
          exact hown1
        have HGR := Lib.hid hgrow1; clear hown1 hgrow1
        obtain ⟨k1, hk1⟩ : ∃ k1, k + 1 = k1 := ⟨_, rfl⟩
        have hl1 : (ys ++ [y]).length = k1 := by simp [hyl.out, hk1]
        have hx1 : x < k1 := by omega
        have HL1 := Lib.hid hl1
        obtain ⟨A1, c1, rfl, -, -⟩ := HO.out.form' hl1
        obtain ⟨g1, rfl, hgl1, hcx1, hfx1⟩ := HO.out.cellAt hl1 hx1
        have hst := HO.out.stored hl1 x (k : Int)
        have HST := Lib.hid hst; clear hst hl1
        go_wp2
        go_simp
        go_wp2
        go_roundw
        case rel =>
          have hlow : ∀ j, (Value.slice (some ⟨g, 0, none⟩) k c).ownBlock = some j → rb + 1 ≤ j := fun j hj => by have := (HO1.out.lt j hj).1; omega
          have hst : Below (rb + 1) w1 w2 := ((Below.refl (rb + 1) w1).alloc (by omega) _).grown HGR.out (by simp; omega) hlow
          have hst2 : Below (rb + 1) w1 (w2.setCell ⟨g1, x, none⟩ (.int .i64 (k : Int))) := hst.setCell (p := ⟨g1, x, none⟩) (by show rb + 1 ≤ g1; omega) _
          exact ⟨_, k + 1, _, rfl, by omega, by go_num, HST.out.1, by simp [Hid, hyl.out], HR1.out.below hst2, ((HB1.out.alloc _).own HGR.out (fun j hj => (HO1.out.lt j hj).1)).own (grown_set _ _ _ _) (fun j hj => by injection hj with hj; omega), by have := hpl.out.swap (x := x) (by rw [hyl.out]; exact hxl); rw [hyl.out, HGY.out] at this; exact this⟩
        case measure => simp [intOf]; omega
    · have hkn : k = m := by omega
      subst hkn
      go_wp2
      go_ret
      exact ⟨_, _, rfl, ho.out, hyl.out, hrd.out, hb.out.below (by omega), hpl.out, hb.out⟩

theorem perm_any (w : World) (rb q m : Nat) (hr : Reads w rb q) (hq : q ≤ 900000) (hm : m ≤ 1000) :
    Calls Try.prog 69 #[.pointer (some ⟨rb, 0, none⟩), .int .i64 m] w fun e w' => ∃ v ys, e = .returned v ∧ Own w' w.heap.size v ys ∧ ys.length = m ∧ Reads w' rb (q + m) ∧ Below rb w w' :=
  (perm_pl w rb q m hr hq hm).mono fun _ _ ⟨v, ys, h1, h2, h3, h4, h5, _⟩ => ⟨v, ys, h1, h2, h3, h4, h5⟩

theorem RdB.take {w : World} {A : Option Addr} {n L : Nat} {bs : List Int} (h : RdB w A n bs) (hL : L ≤ n) : RdB w A L (bs.take L) := by
  have key : ∀ j, j < L → gi (bs.take L) j = gi bs j := fun j hj => by simp [gi, List.getD, hj]
  refine ⟨by rw [List.length_take, h.1]; omega, fun h0 => ?_, fun j hj => by rw [key j hj]; exact h.2.2 j (by omega)⟩
  obtain ⟨ad, e, hc⟩ := h.2.1 (by omega)
  exact ⟨ad, e, fun j hj => by rw [key j hj]; exact hc j (by omega)⟩
theorem RdB.nil_ (w : World) (A : Option Addr) : RdB w A 0 [] := ⟨rfl, fun h => absurd h (by omega), fun j hj => absurd hj (by omega)⟩
theorem RdB.of_row {w : World} {a : Addr} {len cap : Nat} {zs : List Int} (hl : len ≤ cap) (hz : zs.length = cap) (hc : ∀ i, i < zs.length → w.cell? (a.add i) = some (.int .u8 (zs.getD i 0))) (hw : ∀ n ∈ zs, (Lit.int .u8 n).wf = true) : RdB w (some a) len (zs.take len) := by
  have key : ∀ j, j < len → gi (zs.take len) j = zs.getD j 0 := fun j hj => by simp [gi, List.getD, hj]
  refine ⟨by rw [List.length_take]; omega, fun _ => ⟨a, rfl, fun j hj => by rw [hc j (by omega), key j hj]⟩, fun j hj => ?_⟩
  rw [key j hj]
  have hj' : j < zs.length := by omega
  have e : zs.getD j 0 = zs[j] := by simp [List.getD, hj']
  have := hw _ (List.getElem_mem hj')
  rw [e]
  simp [Lit.wf, IntKind.min, IntKind.max, IntKind.bits, IntKind.signed] at this
  omega

end Go.Proofs.Ytcenffndclpjoaa

namespace Go.Proofs.Ytcenffndclpjoaa
open Go.RowKit
set_option linter.unusedVariables false

theorem take_rdb {w : World} {A : Option Addr} {n L : Nat} {bs : List Int} (h : RdB w A n bs) (hL : L ≤ n) : RdB w A L (bs.take L) := by
  have key : ∀ j, j < L → gi (bs.take L) j = gi bs j := fun j hj => by simp [gi, List.getD, hj]
  refine ⟨by rw [List.length_take, h.1]; omega, fun h0 => ?_, fun j hj => by rw [key j hj]; exact h.2.2 j (by omega)⟩
  obtain ⟨ad, e, hc⟩ := h.2.1 (by omega)
  exact ⟨ad, e, fun j hj => by rw [key j hj]; exact hc j (by omega)⟩

theorem opened (w : World) (A : Option Addr) (n c : Nat) (bs : List Int) (h : RdB w A n bs) (hn : n ≤ 1048576) (hc : n ≤ c) :
    Calls Try.prog 29 #[.slice A n c] w fun e w' => e = .returned (.pointer (some ⟨w.heap.size, 0, none⟩)) ∧ Reads w' w.heap.size 0 ∧ Below w.heap.size w w' ∧ w.heap.size < w'.heap.size := by
  refine (open_any w A n c hn hc).mono ?_
  rintro e w' ⟨rfl, L, hL, hLn, rfl⟩
  have hb : Below w.heap.size w (w.alloc (.cells #[.slice A L c, .int .i64 0] 75)) := (Below.refl _ _).alloc (Nat.le_refl _) _
  have ht := take_rdb h hLn
  refine ⟨rfl, ⟨A, L, c, bs.take L, heap_alloc_new w _, ⟨ht.1, fun h0 => ?_, ht.2.2⟩, hL, fun ad e h0 => ?_⟩, hb, by simp⟩
  · obtain ⟨ad, e, hc⟩ := ht.2.1 h0
    exact ⟨ad, e, fun j hj => (hb.cell (World.block_lt_of_cell? w _ (hc j hj))).trans (hc j hj)⟩
  · obtain ⟨ad', e', hc⟩ := ht.2.1 h0
    rw [e] at e'
    injection e' with e'
    subst e'
    have := World.block_lt_of_cell? w _ (hc 0 h0)
    rwa [add_block] at this

theorem below_grown {B rb : Nat} {a b c : World} (h : Below B a b) (g : b.grownBy c (some rb)) (hB : B ≤ rb) (hs : B ≤ b.heap.size) : Below B a c := h.grown g hs (fun k e => by cases e; exact hB)
theorem wf_far {x : Int} (h : -1000 ≤ x ∧ x ≤ 1000) : (Lit.int .i64 x).wf = true := by
  simp [Lit.wf, IntKind.min, IntKind.max, IntKind.bits, IntKind.signed]; omega

/-- Three numbers laid as a row: what is read of it. -/
theorem lit3 {w W w' : World} {rb : Nat} {a b c : Int} (hW : w.alloc (.cells #[.int .i64 a, .int .i64 b, .int .i64 c] 3) = W) (hg : W.grownBy w' (some rb)) (hr : rb < w.heap.size) {y : Nat} (hy : y < 3) :
    ∃ u : Int, w'.cell? ⟨w.heap.size, y, none⟩ = some (.int .i64 u) ∧ (u = a ∨ u = b ∨ u = c) := by
  have hn : W.heap[w.heap.size]? = some (.cells #[.int .i64 a, .int .i64 b, .int .i64 c] 3 (0, 0)) := by rw [← hW]; exact heap_alloc_new w _
  have hl : w'.heap[w.heap.size]? = some (.cells #[.int .i64 a, .int .i64 b, .int .i64 c] 3 (0, 0)) := (hg.block _ (Array.getElem?_eq_some_iff.1 hn).1 (by intro e; injection e with e; omega)).trans hn
  rw [cell_of_row w' _ y _ _ (0, 0) hl]
  rcases (show y = 0 ∨ y = 1 ∨ y = 2 by omega) with rfl | rfl | rfl
  · exact ⟨a, rfl, .inl rfl⟩
  · exact ⟨b, rfl, .inr (.inl rfl)⟩
  · exact ⟨c, rfl, .inr (.inr rfl)⟩
theorem lit2 {w W w' : World} {rb : Nat} {a b : Int} (hW : w.alloc (.cells #[.int .i64 a, .int .i64 b] 3) = W) (hg : W.grownBy w' (some rb)) (hr : rb < w.heap.size) {y : Nat} (hy : y < 2) :
    ∃ u : Int, w'.cell? ⟨w.heap.size, y, none⟩ = some (.int .i64 u) ∧ (u = a ∨ u = b) := by
  have hn : W.heap[w.heap.size]? = some (.cells #[.int .i64 a, .int .i64 b] 3 (0, 0)) := by rw [← hW]; exact heap_alloc_new w _
  have hl : w'.heap[w.heap.size]? = some (.cells #[.int .i64 a, .int .i64 b] 3 (0, 0)) := (hg.block _ (Array.getElem?_eq_some_iff.1 hn).1 (by intro e; injection e with e; omega)).trans hn
  rw [cell_of_row w' _ y _ _ (0, 0) hl]
  rcases (show y = 0 ∨ y = 1 by omega) with rfl | rfl
  · exact ⟨a, rfl, .inl rfl⟩
  · exact ⟨b, rfl, .inr rfl⟩

theorem pickA (w w3 : World) (rb q : Nat) (hr : Reads w3 rb q) (hq : q ≤ 1000000) (hb : Below w.heap.size w w3) (hle : w.heap.size ≤ rb) :
    Calls Try.prog 57 #[.pointer (some ⟨rb, 0, none⟩), .int .i64 3] (w3.alloc (.cells #[.int .i64 (-1), .int .i64 19, .int .i64 18] 3)).drew fun e w4 => ∃ (x : Nat) (u : Int), e = .returned (.int .i64 x) ∧ x < 3 ∧ w4.cell? ⟨w3.heap.size, x, none⟩ = some (.int .i64 u) ∧ (u = -1 ∨ u = 19 ∨ u = 18) ∧ Below w.heap.size w w4 := by
  have hb3 : Below w.heap.size w (w3.alloc (.cells #[.int .i64 (-1), .int .i64 19, .int .i64 18] 3)).drew := (hb.alloc hb.size _).drew
  refine (pick_reads _ rb q (hr.below ((Below.refl _ _).alloc hr.lt _).drew) hq 3 (by omega) (by omega)).mono ?_
  rintro e w4 ⟨x, rfl, hx, r4, g4⟩
  have hx3 : x < 3 := by omega
  obtain ⟨u, hu, hu2⟩ := lit3 (w := w3) (a := -1) (b := 19) (c := 18) rfl ⟨g4.os, g4.tape, g4.output, g4.size, g4.block⟩ hr.lt hx3
  exact ⟨x, u, rfl, hx3, hu, hu2, below_grown hb3 g4 hle hb3.size⟩
theorem pickB (w w3 : World) (rb q : Nat) (hr : Reads w3 rb q) (hq : q ≤ 1000000) (hb : Below w.heap.size w w3) (hle : w.heap.size ≤ rb) :
    Calls Try.prog 57 #[.pointer (some ⟨rb, 0, none⟩), .int .i64 3] w3.drew fun e w4 => ∃ x : Nat, e = .returned (.int .i64 x) ∧ x < 3 ∧ Below w.heap.size w w4 := by
  have hb3 : Below w.heap.size w w3.drew := hb.drew
  refine (pick_reads _ rb q (hr.below (Below.refl _ _).drew) hq 3 (by omega) (by omega)).mono ?_
  rintro e w4 ⟨x, rfl, hx, r4, g4⟩
  exact ⟨x, rfl, by omega, below_grown hb3 g4 hle hb3.size⟩

end Go.Proofs.Ytcenffndclpjoaa

/-
  A slice of slices of ints that reads as a list of lists: to compare, to count, to copy.
-/
import Derived.Test.YthcdhkelpepeeaaKit
namespace Go.Proofs.Ythcdhkelpepeeaa
open Go.RowKit

/-- The slice value with the address A and n elements reads as the list of lists xss. -/
def RdSS (w : World) (A : Option Addr) (n : Nat) (xss : List (List Int)) : Prop :=
  xss.length = n ∧ (0 < n → ∃ ad : Addr, A = some ad ∧ ∀ j, j < n → ∃ Aj cj, w.cell? (ad.add j) = some (.slice Aj (xss.getD j []).length cj) ∧ Rd w Aj (xss.getD j []).length (xss.getD j []) ∧ (xss.getD j []).length ≤ maxLen)
theorem RdSS.at_ {w : World} {A : Option Addr} {n : Nat} {xss : List (List Int)} {k : Nat} (h : RdSS w A n xss) (hk : k < n) :
    ∃ (ad : Addr) (Aj : Option Addr) (cj nj : Nat), A = some ad ∧ w.cell? (ad.add k) = some (.slice Aj nj cj) ∧ Rd w Aj nj (xss.getD k []) ∧ nj ≤ maxLen := by
  obtain ⟨ad, e, hc⟩ := h.2 (by omega)
  obtain ⟨Aj, cj, h1, h2, h3⟩ := hc k hk
  exact ⟨ad, Aj, cj, _, e, h1, h2, h3⟩
theorem RdSS.drewN {w : World} {A : Option Addr} {n : Nat} {xss : List (List Int)} (h : RdSS w A n xss) (k : Nat) : RdSS (w.drewN k) A n xss := h
set_option maxHeartbeats 800000 in
theorem eqIntSS_same (A A' : Option Addr) (n c c' : Nat) (xss : List (List Int)) (w : World) (h : RdSS w A n xss) (h' : RdSS w A' n xss) (hn : n ≤ 1048576) :
    Calls Try.prog 21 #[.slice A n c, .slice A' n c'] w fun e w' => e = .returned (.bool true) ∧ Below w.heap.size w w' := by
  have H := Lib.hid h; have H' := Lib.hid h'; clear h h'
  have ht : (((n : Nat) : Int) != n) = false := by simp
  go_enter Try.func21, Try.ntmps21
  go_wp2
  go_loopw [5] (fun i wr => ∃ k : Nat, k ≤ n ∧ i = .int .i64 k ∧ Hid (RdSS wr A n xss) ∧ Hid (RdSS wr A' n xss) ∧ Hid (Below w.heap.size w wr)) (fun i _ => n - (intOf i).toNat)
  case atStart => exact ⟨0, Nat.zero_le _, rfl, H, H', Below.refl _ _⟩
  case round =>
    clear H H'
    obtain ⟨k, hk, rfl, H, H', hb⟩ := hrel
    by_cases hlt : k < n
    · obtain ⟨ad, Aj, cj, nj, rfl, hc, hr, hm⟩ := H.out.at_ hlt
      obtain ⟨ad', Aj', cj', nj', rfl, hc', hr', hm'⟩ := H'.out.at_ hlt
      have HC : ∀ W, Rd W Aj nj (xss.getD k []) → Rd W Aj' nj' (xss.getD k []) → Calls Try.prog 31 #[.slice Aj nj cj, .slice Aj' nj' cj'] W fun e w' => e = .returned (.bool true) ∧ ∃ k, w' = W.drewN k := fun W h1 h2 =>
        (eqIntS_any Aj Aj' nj nj' cj cj' _ _ W h1 h2 hm hm').mono fun e w' ⟨he, hk⟩ => ⟨by rw [he, eqB_refl], hk⟩
      have HC2 := Lib.hid HC; have HR := Lib.hid hr; have HR' := Lib.hid hr'; clear HC hr hr'
      go_wp2
      go_quiet ((go_at_call 31; exact Calls.quiet_of (HC2.out _ HR.out HR'.out)))
      go_wp2
      go_roundw
      case rel => exact ⟨k + 1, by omega, by go_num, H, H', below_drewN hb.out _⟩
      case measure => simp [intOf]; omega
    · go_wp2
      go_ret
      exact ⟨rfl, hb.out⟩

/-- How many elements in all. -/
def total : List (List Int) → Nat
  | [] => 0
  | xs :: r => xs.length + total r
theorem total_append (a b : List (List Int)) : total (a ++ b) = total a + total b := by
  induction a with
  | nil => simp [total]
  | cons x a ih => simp only [List.cons_append, total, ih]; omega
theorem total_take_succ {xss : List (List Int)} {k : Nat} (h : k < xss.length) : total (xss.take (k + 1)) = total (xss.take k) + (xss.getD k []).length := by
  rw [List.take_succ_eq_append_getElem h, total_append]
  simp [total, List.getD, h]
theorem total_take_le (xss : List (List Int)) (k : Nat) : total (xss.take k) ≤ total xss := by
  have := total_append (xss.take k) (xss.drop k)
  rw [List.take_append_drop] at this
  omega
theorem total_all (xss : List (List Int)) {n : Nat} (h : xss.length = n) : total (xss.take n) = total xss := by rw [← h, List.take_length]
theorem total_ge {xss : List (List Int)} {k : Nat} (h : k < xss.length) : (xss.getD k []).length ≤ total xss := by
  have a := total_take_succ h
  have b := total_take_le xss (k + 1)
  omega
theorem RdSS.keep {w w' : World} {A : Option Addr} {n : Nat} {xss : List (List Int)} (h : RdSS w A n xss) (hk : ∀ p : Addr, p.block < w.heap.size → w'.cell? p = w.cell? p) : RdSS w' A n xss :=
  ⟨h.1, fun hn => by
    obtain ⟨ad, e, hc⟩ := h.2 hn
    refine ⟨ad, e, fun j hj => ?_⟩
    obtain ⟨Aj, cj, h1, h2, h3⟩ := hc j hj
    exact ⟨Aj, cj, (hk _ (World.block_lt_of_cell? w _ h1)).trans h1, h2.keep hk, h3⟩⟩
theorem RdSS.below {w w' : World} {A : Option Addr} {n : Nat} {xss : List (List Int)} (h : RdSS w A n xss) (hb : Below w.heap.size w w') : RdSS w' A n xss := h.keep fun _ hp => hb.cell hp

/-- .. of an argument that was opened. -/
theorem RdSS.of_rows {w : World} {a : Addr} {base len cap : Nat} {A : Nat → Option Addr} {L C : Nat → Nat} {Z : Nat → List Int} (hl : len ≤ cap)
    (h : ∀ r, r < cap → w.cell? (a.add r) = some (.slice (A r) (L r) (C r)) ∧ L r ≤ C r ∧ C r ≤ maxLen ∧ (Z r).length = C r ∧ (∀ n ∈ Z r, (Lit.int .i64 n).wf = true) ∧ (A r = none → C r = 0) ∧
      ∀ a', A r = some a' → base ≤ a'.block ∧ ∀ c, c < C r → w.cell? (a'.add c) = some (.int .i64 ((Z r).getD c 0))) : RdSS w (some a) len ((List.range len).map fun r => (Z r).take (L r)) := by
  refine ⟨by simp, fun _ => ⟨a, rfl, fun j hj => ?_⟩⟩
  obtain ⟨h1, h2, h3, h4, -, h6, h7⟩ := h j (by omega)
  have e : ((List.range len).map fun r => (Z r).take (L r)).getD j [] = (Z j).take (L j) := by simp [List.getD, hj]
  have el : ((Z j).take (L j)).length = L j := by rw [List.length_take]; omega
  rw [e, el]
  refine ⟨A j, C j, h1, ?_, Nat.le_trans h2 h3⟩
  cases hA : A j with
  | none =>
    have := h6 hA
    exact ⟨el, fun hp => absurd hp (by omega)⟩
  | some a' => exact Rd.of_row h2 h4 (fun i hi => (h7 a' hA).2 i (by rw [h4] at hi; exact hi))

theorem szRowS_any (A : Option Addr) (n c : Nat) (t : Int) (w : World) (hn : n ≤ maxLen) (ht0 : 0 ≤ t) (ht : t ≤ 1048576) {r : Int} (hr : (if t - (n : Int) < 0 then -1 else t - (n : Int)) = r) :
    Calls Try.prog 50 #[.slice A n c, .int .i64 t] w fun e w' => e = .returned (.int .i64 r) ∧ w' = w := by
  unfold maxLen at hn
  have HR := Lib.hid hr; clear hr
  by_cases hlt : t - (n : Int) < 0
  · have hd : decide (t - (n : Int) < 0) = true := by simpa using hlt
    have HE : Hid (-1 = r) := by rw [Hid, ← HR.out, if_pos hlt]
    go_enter Try.func50, Try.ntmps50
    go_wp2_with fail
    go_ret
    exact ⟨ret_int HE.out, rfl⟩
  · have hd : decide (t - (n : Int) < 0) = false := by simpa using hlt
    have HE : Hid (t - (n : Int) = r) := by rw [Hid, ← HR.out, if_neg hlt]
    go_enter Try.func50, Try.ntmps50
    go_wp2_with fail
    go_ret
    exact ⟨ret_int HE.out, rfl⟩

set_option maxHeartbeats 800000 in
theorem szIntSS_any (A : Option Addr) (n c : Nat) (xss : List (List Int)) (w : World) (h : RdSS w A n xss) (hn : n ≤ maxLen) :
    Calls Try.prog 15 #[.slice A n c, .int .i64 1048576] w fun e w' => ∃ r : Int, e = .returned (.int .i64 r) ∧ w' = w ∧ (0 ≤ r → n + total xss ≤ 1048576) := by
  have hm := hn
  unfold maxLen at hn
  have H := Lib.hid h; have Hx := Lib.hid h.1; clear h
  by_cases hlt : (1048576 : Int) - (n : Int) < 0
  · have hd : decide ((1048576 : Int) - (n : Int) < 0) = true := by simpa using hlt
    go_enter Try.func15, Try.ntmps15
    go_wp2_with fail
    go_ret
    exact ⟨_, rfl, rfl, fun h => absurd h (by omega)⟩
  · have hd : decide ((1048576 : Int) - (n : Int) < 0) = false := by simpa using hlt
    go_enter Try.func15, Try.ntmps15
    go_wp2_with fail
    clear hd
    go_loop [1, 5] (fun u i => ∃ (k : Nat) (t : Int), k ≤ n ∧ i = .int .i64 k ∧ u = .int .i64 t ∧ 0 ≤ t ∧ t ≤ 1048576 ∧ Hid (t + n + total (xss.take k) = 1048576)) (fun _ i => n - (intOf i).toNat)
    case atStart => exact ⟨0, _, Nat.zero_le _, rfl, rfl, by omega, by omega, by simp [Hid, total]⟩
    case round =>
      obtain ⟨k, t, hk, rfl, rfl, ht0, ht1, htt⟩ := hrel
      by_cases hlt : k < n
      · obtain ⟨ad, Aj, cj, nj, rfl, hc, hr, hmj⟩ := H.out.at_ hlt
        have e3 := total_take_succ (xss := xss) (k := k) (by rw [Hx.out]; exact hlt)
        rw [hr.1] at e3
        have E3 := Lib.hid e3; clear hr e3
        by_cases hng : t - (nj : Int) < 0
        · have hd : decide ((-1 : Int) < 0) = true := by decide
          go_wp2_with (go_at_call 50; refine (szRowS_any Aj nj cj t _ hmj ht0 ht1 (r := -1) (by rw [if_pos hng])).mono ?_; rintro e w' ⟨rfl, rfl⟩)
          go_ret
          exact ⟨_, rfl, rfl, fun h => absurd h (by omega)⟩
        · have hd : decide (t - (nj : Int) < 0) = false := by simpa using hng
          go_wp2_with (go_at_call 50; refine (szRowS_any Aj nj cj t _ hmj ht0 ht1 (r := t - (nj : Int)) (by rw [if_neg hng])).mono ?_; rintro e w' ⟨rfl, rfl⟩)
          go_round
          case rel => exact ⟨k + 1, t - (nj : Int), by omega, by go_num, rfl, by omega, by omega, by have := htt.out; have := E3.out; simp only [Hid]; omega⟩
          case measure => simp [intOf]; omega
      · have hkn : k = n := by omega
        have HK := Lib.hid hkn; clear hkn
        go_wp2_with fail
        go_ret
        exact ⟨_, rfl, rfl, fun _ => by have := htt.out; rw [HK.out, total_all xss Hx.out] at this; omega⟩

theorem info_sliceR : (Try.prog.info? 22).map (fun i => (i.zero, i.size, i.bytes)) = some (some (.slice none 0 0), 1, 24) := by kernel_rfl

/-- Block g holds n rows, those before k read as xss. -/
def Rows (w : World) (g n : Nat) (k : Nat) (xss : List (List Int)) : Prop :=
  ∃ vs : List Value, vs.length = n ∧ w.ownsRow g 22 1 (.slice (some ⟨g, 0, none⟩) n n) n vs ∧ ∀ j, j < k → Own w (g + 1) (vs.getD j undef) (xss.getD j [])
theorem Rows.made {w : World} {g n : Nat} {xss : List (List Int)} (h : w.ownsRow g 22 1 (.slice (some ⟨g, 0, none⟩) n n) n (madeCells (Value.slice none 0 0).cells (n * 1)).toList) : Rows w g n 0 xss := by
  have e : (Value.slice none 0 0).cells = #[Value.slice none 0 0] := rfl
  rw [e, Nat.mul_one, toList_madeCells_one] at h
  exact ⟨_, by simp, h, fun j hj => absurd hj (by omega)⟩
theorem Rows.below {w w' : World} {g n k : Nat} {xss : List (List Int)} (h : Rows w g n k xss) (hb : Below w.heap.size w w') : Rows w' g n k xss := by
  obtain ⟨vs, hl, ho, hr⟩ := h
  exact ⟨vs, hl, World.ownsRow.kept ho (row := none) ⟨hb.os, hb.tape, hb.output, hb.size, fun k hk _ => hb.block k hk⟩ (by simp [Value.ownBlock]), fun j hj => (hr j hj).below hb⟩
theorem Rows.at_ {w : World} {g n k : Nat} {xss : List (List Int)} (h : Rows w g n k xss) {i : Nat} (hi : i < n) : ∃ v, w.cell? ⟨g, i, none⟩ = some v ∧ w.frozen? ⟨g, i, none⟩ = false := by
  obtain ⟨vs, hl, ho, hr⟩ := h
  refine ⟨vs.getD i undef, ?_, World.ownsRow.frozenAt ho i⟩
  rw [World.ownsRow.cellAt ho i (by omega)]
  simp [List.getD, List.getElem?_eq_getElem (show i < vs.length by omega)]
theorem Rows.put {w : World} {g n k : Nat} {xss : List (List Int)} {u : Value} (h : Rows w g n k xss) (hk : k < n) (hu : Own w (g + 1) u (xss.getD k [])) :
    Rows (w.setCell ⟨g, k, none⟩ u) g n (k + 1) xss ∧ w.grownBy (w.setCell ⟨g, k, none⟩ u) (some g) := by
  obtain ⟨vs, hl, ho, hr⟩ := h
  have hs := World.ownsRow.stored ho k u
  have key : ∀ {x : Value} {ys : List Int}, Own w (g + 1) x ys → Own (w.setCell ⟨g, k, none⟩ u) (g + 1) x ys := fun {x ys} hx => by
    refine hx.grown hs.2 ?_
    cases hb : x.ownBlock with
    | none => exact .inl rfl
    | some b => exact .inr fun e => by cases e; have := (hx.lt g hb).1; omega
  refine ⟨⟨vs.set k u, by simp [hl], hs.1, fun j hj => ?_⟩, hs.2⟩
  by_cases e : j = k
  · subst e
    have : (vs.set j u).getD j undef = u := by simp [List.getD, hl, hk]
    rw [this]; exact key hu
  · have : (vs.set k u).getD j undef = vs.getD j undef := by simp [List.getD, Ne.symm e]
    rw [this]; exact key (hr j (by omega))
theorem Rows.rd {w : World} {g n : Nat} {xss : List (List Int)} (h : Rows w g n n xss) (hn : xss.length = n) : RdSS w (some ⟨g, 0, none⟩) n xss := by
  obtain ⟨vs, hl, ho, hr⟩ := h
  refine ⟨hn, fun hp => ⟨_, rfl, fun j hj => ?_⟩⟩
  obtain ⟨Aj, cj, hv, hrd, hm⟩ := (hr j hj).form
  refine ⟨Aj, cj, ?_, hrd, hm⟩
  have hg : (vs)[j]? = some (vs.getD j undef) := by simp [List.getD, List.getElem?_eq_getElem (show j < vs.length by omega)]
  rw [← hv]
  exact ho.cells (g := g) rfl j _ hg

set_option maxHeartbeats 1600000 in
theorem toIntSS_own (A : Option Addr) (n c : Nat) (xss : List (List Int)) (w : World) (h : RdSS w A n xss) (hn : n ≤ 1048576) (ht : total xss ≤ 1048576) :
    Calls Try.prog 18 #[.slice A n c] w fun e w' => ∃ g, e = .returned (.slice (some ⟨g, 0, none⟩) n n) ∧ Rows w' g n n xss ∧ Below w.heap.size w w' := by
  obtain ⟨i0, hi, hz0, hz1, hz2⟩ := info_parts info_sliceR
  have H := Lib.hid h; have Hx := Lib.hid h.1; clear h
  have HZ := Lib.hid (And.intro hz1 hz2)
  have HT := Lib.hid ht; clear ht
  go_enter Try.func18, Try.ntmps18
  go_wp2_with (at_make; refine wpList_make_full _ rfl _ _ 25 rfl w.heap.size 22 i0 (.slice none 0 0) 1 Try.underlying25 hi hz0 hz1 .i64 .i64 _ _ n rfl rfl rfl rfl (by rw [hz2]; omega) (by unfold maxLen; omega) (Nat.le_refl _) ?_; intro w1 hown1 hgrow1)
  have hb1 := Lib.hid (below_of_grown hgrow1 (Nat.le_refl _) (fun k hk => by cases hk))
  have ho1 : Hid (Rows w1 w.heap.size n 0 xss) := Rows.made hown1
  have hs1 : w.heap.size < w1.heap.size := (World.ownsRow.lt hown1 _ rfl).2
  clear hown1 hgrow1 hz0 hz1 hz2 hi HZ
  go_loopw [4] (fun i wr => ∃ k : Nat, k ≤ n ∧ i = .int .i64 k ∧ Hid (Rows wr w.heap.size n k xss) ∧ Hid (Below w.heap.size w wr) ∧ Hid (w.heap.size < wr.heap.size)) (fun i _ => n - (intOf i).toNat)
  case atStart => exact ⟨0, Nat.zero_le _, rfl, ho1, hb1, hs1⟩
  case round =>
    obtain ⟨k, hk, rfl, ho, hb, hsz⟩ := hrel
    clear ho1 hb1 hs1
    by_cases hlt : k < n
    · obtain ⟨ad, Aj, cj, nj, rfl, hc, hr, hmj⟩ := (H.out.below hb.out).at_ hlt
      have hnj : nj ≤ 1048576 := by have := total_ge (xss := xss) (k := k) (by rw [Hx.out]; exact hlt); rw [hr.1] at this; have := HT.out; omega
      have HR := Lib.hid hr; clear hr hmj
      go_wp2_with (go_at_call 39; refine (toIntS_any Aj nj cj (xss.getD k []) _ HR.out (by omega)).mono ?_; rintro e w2 ⟨v, rfl, o, b⟩; obtain ⟨Av, cv, rfl, -, -⟩ := o.form' HR.out.1; have HO := Lib.hid (o.mono (by have := hsz.out; omega) : Own w2 (w.heap.size + 1) (.slice Av nj cv) _); have HB2 := Lib.hid b; clear o b; obtain ⟨u, hcu, hfu⟩ := Rows.at_ (ho.out.below HB2.out) hlt; have HS := Lib.hid (Rows.put (ho.out.below HB2.out) hlt HO.out))
      go_roundw
      case rel =>
        have hb2 := hb.out.trans (HB2.out.mono (Nat.le_of_lt hsz.out))
        exact ⟨k + 1, by omega, by go_num, HS.out.1, hb2.grown HS.out.2 (Nat.le_of_lt (Nat.lt_of_lt_of_le hsz.out HB2.out.size)) (fun b hb => by cases hb; exact Nat.le_refl _), by have := HS.out.2.size; have := HB2.out.size; have := hsz.out; simp only [Hid] at *; omega⟩
      case measure => simp [intOf]; omega
    · have hkn : k = n := by omega
      have HK := Lib.hid hkn; clear hkn
      go_wp2_with fail
      go_ret
      exact ⟨_, rfl, HK.out ▸ ho.out, hb.out⟩

theorem toIntSS_any (A : Option Addr) (n c : Nat) (xss : List (List Int)) (w : World) (h : RdSS w A n xss) (hn : n ≤ 1048576) (ht : total xss ≤ 1048576) :
    Calls Try.prog 18 #[.slice A n c] w fun e w' => ∃ A' c', e = .returned (.slice A' n c') ∧ RdSS w' A' n xss ∧ Below w.heap.size w w' :=
  (toIntSS_own A n c xss w h hn ht).mono fun _ _ ⟨_, he, hr, hb⟩ => ⟨_, _, he, hr.rd h.1, hb⟩
/-- A row of it. -/
theorem Rows.row {w : World} {g n : Nat} {xss : List (List Int)} (h : Rows w g n n xss) {j : Nat} (hj : j < n) :
    ∃ Aj nj cj, w.cell? ⟨g, j, none⟩ = some (.slice Aj nj cj) ∧ Own w (g + 1) (.slice Aj nj cj) (xss.getD j []) ∧ (xss.getD j []).length = nj := by
  obtain ⟨vs, hl, ho, hr⟩ := h
  obtain ⟨Aj, cj, hv, -, -⟩ := (hr j hj).form
  have hc := World.ownsRow.cellAt ho j (by omega)
  have h1 := hr j hj
  rw [hv] at h1
  refine ⟨Aj, _, cj, ?_, h1, rfl⟩
  rw [hc, ← hv]
  simp [List.getD, List.getElem?_eq_getElem (show j < vs.length by omega)]

end Go.Proofs.Ythcdhkelpepeeaa

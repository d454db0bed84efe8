/-
  An argument of slices of slices: its size, a copy that the call owns row by row, its marks.
-/
import Derived.Test.YthcdhkelpepeeaaMarkSS
import Derived.Test.YthcdhkelpepeeaaKitM
import Derived.Test.YthcdhkelpepeeaaFix
namespace Go.Proofs.Ythcdhkelpepeeaa
open Go.RowKit

set_option maxHeartbeats 800000 in
theorem szIntSS_left (A : Option Addr) (n c : Nat) (xss : List (List Int)) (left : Int) (w : World) (h : RdSS w A n xss) (hn : n ≤ maxLen) (hl0 : 0 ≤ left) (hl1 : left ≤ 1048576) :
    Calls Try.prog 15 #[.slice A n c, .int .i64 left] w fun e w' => ∃ r : Int, e = .returned (.int .i64 r) ∧ w' = w ∧ (0 ≤ r → (n : Int) + (total xss : Nat) ≤ left) := by
  have hm := hn
  unfold maxLen at hn
  have H := Lib.hid h; have Hx := Lib.hid h.1; clear h
  by_cases hlt : left - (n : Int) < 0
  · have hd : decide (left - (n : Int) < 0) = true := by simpa using hlt
    go_enter Try.func15, Try.ntmps15
    go_wp2_with fail
    go_ret
    exact ⟨_, rfl, rfl, fun h => absurd h (by omega)⟩
  · have hd : decide (left - (n : Int) < 0) = false := by simpa using hlt
    go_enter Try.func15, Try.ntmps15
    go_wp2_with fail
    clear hd
    go_loop [1, 5] (fun u i => ∃ (k : Nat) (t : Int), k ≤ n ∧ i = .int .i64 k ∧ u = .int .i64 t ∧ 0 ≤ t ∧ t ≤ 1048576 ∧ Hid (t + n + total (xss.take k) = left)) (fun _ i => n - (intOf i).toNat)
    case atStart => exact ⟨0, _, Nat.zero_le _, rfl, rfl, by omega, by omega, by simp [Hid, total]⟩
    case round =>
      obtain ⟨k, t, hk, rfl, rfl, ht0, ht1, htt⟩ := hrel
      by_cases hlt : k < n
      · obtain ⟨ad, Aj, cj, nj, rfl, hc, hr, hmj⟩ := H.out.at_ hlt
        have e3 := total_take_succ (xss := xss) (k := k) (by rw [Hx.out]; exact hlt)
        rw [hr.1] at e3
        have E3 := Lib.hid e3; clear hr e3
        by_cases hng : t - (nj : Int) < 0
        · have hd : decide ((-1 : Int) < 0) = true := by decide
          go_wp2_with (go_at_call 50; refine (szRowS_any Aj nj cj t _ hmj ht0 ht1 (r := -1) (by rw [if_pos hng])).mono ?_; rintro e w' ⟨rfl, rfl⟩)
          go_ret
          exact ⟨_, rfl, rfl, fun h => absurd h (by omega)⟩
        · have hd : decide (t - (nj : Int) < 0) = false := by simpa using hng
          go_wp2_with (go_at_call 50; refine (szRowS_any Aj nj cj t _ hmj ht0 ht1 (r := t - (nj : Int)) (by rw [if_neg hng])).mono ?_; rintro e w' ⟨rfl, rfl⟩)
          go_round
          case rel => exact ⟨k + 1, t - (nj : Int), by omega, by go_num, rfl, by omega, by omega, by have := htt.out; have := E3.out; simp only [Hid]; omega⟩
          case measure => simp [intOf]; omega
      · have hkn : k = n := by omega
        have HK := Lib.hid hkn; clear hkn
        go_wp2_with fail
        go_ret
        exact ⟨_, rfl, rfl, fun _ => by have := htt.out; rw [HK.out, total_all xss Hx.out] at this; omega⟩

/-- A row put into a slice of slices that a call owns. -/
theorem OwnRows.put {w : World} {lo hi hi' n c g k : Nat} {f : Nat → List Int} {u : Value} {xs : List Int} (h : OwnRows w lo hi (.slice (some ⟨g, 0, none⟩) n c) n f) (hk : k < n) (hu : Own w lo u xs) (hh : hi ≤ hi') (hu' : ∀ q, u.ownBlock = some q → hi ≤ q ∧ q < hi') :
    OwnRows (w.setCell ⟨g, k, none⟩ u) lo hi' (.slice (some ⟨g, 0, none⟩) n c) n (fun j => if j = k then xs else f j) ∧ w.grownBy (w.setCell ⟨g, k, none⟩ u) (some g) := by
  obtain ⟨vs, hl, ho, hr, hd⟩ := h
  have hs := World.ownsRow.stored ho k u
  have key : ∀ {x : Value} {ys : List Int}, Own w lo x ys → Own (w.setCell ⟨g, k, none⟩ u) lo x ys := fun {x ys} hx => by
    refine hx.grown hs.2 ?_
    cases hb : x.ownBlock with
    | none => exact .inl rfl
    | some b =>
      refine .inr fun e => ?_
      injection e with e
      subst e
      obtain ⟨_, cs, h1⟩ := row_kind ho b rfl
      obtain ⟨_, cs', h2⟩ := row_kind hx b hb
      rw [h1] at h2
      injection h2 with h2
      injection h2 with _ h2
      exact absurd h2 (by decide)
  have hget : ∀ j, (vs.set k u).getD j undef = if j = k then u else vs.getD j undef := fun j => by
    by_cases e : j = k
    · subst e; rw [if_pos rfl]; simp [List.getD, hl, hk]
    · rw [if_neg e]; simp [List.getD, Ne.symm e]
  refine ⟨⟨vs.set k u, by simp [hl], hs.1, fun j hj => ?_, fun j hj i hij => ?_⟩, hs.2⟩
  · rw [hget]
    by_cases e : j = k
    · simp only [if_pos e]; exact ⟨key hu, fun q hq => (hu' q hq).2⟩
    · simp only [if_neg e]; exact ⟨key (hr j hj).1, fun q hq => Nat.lt_of_lt_of_le ((hr j hj).2 q hq) hh⟩
  · rw [hget, hget]
    by_cases e : j = k
    · have e2 : i ≠ k := by omega
      rw [if_pos e, if_neg e2]
      exact ne_of (fun q hq => (hr i (by omega)).2 q hq) (fun q hq => (hu' q hq).1)
    · rw [if_neg e]
      by_cases e2 : i = k
      · rw [if_pos e2]
        exact ne_of' (fun q hq => (hu' q hq).1) (fun q hq => (hr j hj).2 q hq)
      · rw [if_neg e2]; exact hd j hj i hij
theorem OwnRows.below {w w' : World} {lo hi n : Nat} {v : Value} {f : Nat → List Int} (h : OwnRows w lo hi v n f) (hb : Below w.heap.size w w') : OwnRows w' lo hi v n f := by
  obtain ⟨vs, hl, ho, hr, hd⟩ := h
  exact ⟨vs, hl, World.ownsRow.kept ho (row := none) ⟨hb.os, hb.tape, hb.output, hb.size, fun k hk _ => hb.block k hk⟩ (by cases v.ownBlock <;> simp), fun j hj => ⟨(hr j hj).1.below hb, (hr j hj).2⟩, hd⟩
theorem OwnRows.cell {w : World} {lo hi n c g k : Nat} {f : Nat → List Int} (h : OwnRows w lo hi (.slice (some ⟨g, 0, none⟩) n c) n f) (hk : k < n) : ∃ v, w.cell? ⟨g, k, none⟩ = some v ∧ w.frozen? ⟨g, k, none⟩ = false := by
  obtain ⟨vs, hl, ho, hr, hd⟩ := h
  refine ⟨vs.getD k undef, ?_, World.ownsRow.frozenAt ho k⟩
  rw [World.ownsRow.cellAt ho k (by omega)]
  simp [List.getD, List.getElem?_eq_getElem (show k < vs.length by omega)]
theorem OwnRows.made {w : World} {lo hi g n : Nat} (h : w.ownsRow lo 22 1 (.slice (some ⟨g, 0, none⟩) n n) n (madeCells (Value.slice none 0 0).cells (n * 1)).toList) : OwnRows w lo hi (.slice (some ⟨g, 0, none⟩) n n) n (fun _ => []) := by
  have e : (Value.slice none 0 0).cells = #[Value.slice none 0 0] := rfl
  rw [e, Nat.mul_one, toList_madeCells_one] at h
  have hget : ∀ j, j < n → (List.replicate n (Value.slice none 0 0)).getD j undef = Value.slice none 0 0 := fun j hj => by simp [List.getD, hj]
  exact ⟨_, by simp, h, fun j hj => by rw [hget j hj]; exact ⟨Own.nil_ _ _, fun k hk => by cases hk⟩, fun j hj i hij => by rw [hget i (by omega)]; exact .inl rfl⟩

set_option maxHeartbeats 1600000 in
theorem toIntSS_ss (A : Option Addr) (n c : Nat) (xss : List (List Int)) (w : World) (h : RdSS w A n xss) (hn : n ≤ 1048576) (ht : total xss ≤ 1048576) :
    Calls Try.prog 18 #[.slice A n c] w fun e w' => ∃ v, e = .returned v ∧ OwnSS w' w.heap.size w'.heap.size v xss ∧ Below w.heap.size w w' := by
  obtain ⟨i0, hi, hz0, hz1, hz2⟩ := info_parts info_sliceR
  have H := Lib.hid h; have Hx := Lib.hid h.1; clear h
  have HZ := Lib.hid (And.intro hz1 hz2)
  have HT := Lib.hid ht; clear ht
  go_enter Try.func18, Try.ntmps18
  go_wp2_with (at_make; refine wpList_make_full _ rfl _ _ 25 rfl w.heap.size 22 i0 (.slice none 0 0) 1 Try.underlying25 hi hz0 hz1 .i64 .i64 _ _ n rfl rfl rfl rfl (by rw [hz2]; omega) (by unfold maxLen; omega) (Nat.le_refl _) ?_; intro w1 hown1 hgrow1)
  have hb1 := Lib.hid (below_of_grown hgrow1 (Nat.le_refl _) (fun k hk => by cases hk))
  have ho1 : Hid (OwnRows w1 w.heap.size w1.heap.size (.slice (some ⟨w.heap.size, 0, none⟩) n n) n (fun j => if j < 0 then xss.getD j [] else [])) := (OwnRows.made hown1).congr (fun j _ => by simp)
  have hs1 : w.heap.size < w1.heap.size := (World.ownsRow.lt hown1 _ rfl).2
  clear hown1 hgrow1 hz0 hz1 hz2 hi HZ
  go_loopw [4] (fun i wr => ∃ k : Nat, k ≤ n ∧ i = .int .i64 k ∧ Hid (OwnRows wr w.heap.size wr.heap.size (.slice (some ⟨w.heap.size, 0, none⟩) n n) n (fun j => if j < k then xss.getD j [] else [])) ∧ Hid (Below w.heap.size w wr) ∧ Hid (w.heap.size < wr.heap.size)) (fun i _ => n - (intOf i).toNat)
  case atStart => exact ⟨0, Nat.zero_le _, rfl, ho1, hb1, hs1⟩
  case round =>
    obtain ⟨k, hk, rfl, ho, hb, hsz⟩ := hrel
    clear ho1 hb1 hs1
    by_cases hlt : k < n
    · obtain ⟨ad, Aj, cj, nj, rfl, hc, hr, hmj⟩ := (H.out.below hb.out).at_ hlt
      have hnj : nj ≤ 1048576 := by have := total_ge (xss := xss) (k := k) (by rw [Hx.out]; exact hlt); rw [hr.1] at this; have := HT.out; omega
      have HR := Lib.hid hr; clear hr hmj
      go_wp2_with (go_at_call 39; refine (toIntS_any Aj nj cj (xss.getD k []) _ HR.out (by omega)).mono ?_; rintro e w2 ⟨v, rfl, o, b⟩; obtain ⟨Av, cv, rfl, -, -⟩ := o.form' HR.out.1; have HO := Lib.hid o; have HB2 := Lib.hid b; clear o b; obtain ⟨u, hcu, hfu⟩ := OwnRows.cell (ho.out.below HB2.out) hlt; have HS := Lib.hid (OwnRows.put (hi' := w2.heap.size) (ho.out.below HB2.out) hlt (HO.out.mono (Nat.le_of_lt hsz.out)) HB2.out.size HO.out.lt))
      go_roundw
      case rel =>
        have hb2 := hb.out.trans (HB2.out.mono (Nat.le_of_lt hsz.out))
        refine ⟨k + 1, by omega, by go_num, ?_, hb2.grown HS.out.2 (Nat.le_of_lt (Nat.lt_of_lt_of_le hsz.out HB2.out.size)) (fun b hb => by cases hb; exact Nat.le_refl _), by have := HS.out.2.size; have := HB2.out.size; have := hsz.out; simp only [Hid] at *; omega⟩
        have hq := HS.out.1
        have e : (w2.setCell ⟨w.heap.size, k, none⟩ (.slice Av nj cv)).heap.size = w2.heap.size := by simp [World.setCell]
        rw [Hid, e]
        refine hq.congr fun j hj => ?_
        by_cases e1 : j = k
        · rw [if_pos e1, if_pos (by omega), e1]
        · rw [if_neg e1]
          by_cases e2 : j < k
          · rw [if_pos e2, if_pos (by omega)]
          · rw [if_neg e2, if_neg (by omega)]
      case measure => simp [intOf]; omega
    · have hkn : k = n := by omega
      have HK := Lib.hid hkn; clear hkn
      go_wp2_with fail
      go_ret
      exact ⟨_, rfl, (ho.out.congr (f' := fun j => xss.getD j []) (fun j hj => by rw [if_pos (by have := HK.out; omega)])).ss Hx.out, hb.out⟩

theorem OwnSS.chg {w w' : World} {lo hi a b : Nat} {v : Value} {xss : List (List Int)} (h : OwnSS w lo hi v xss) (hv : ∀ k, v.ownBlock = some k → k < hi) (hw : hi ≤ w.heap.size) (hc : Chg a b w w') (ho : hi ≤ a ∨ b ≤ lo) : OwnSS w' lo hi v xss :=
  h.fix hv fun i h1 h2 => hc.block i (by omega) (by omega)

set_option maxHeartbeats 800000 in
theorem markIntSS_chg (lo hi : Nat) (A : Option Addr) (n c : Nat) (xss : List (List Int)) (m : Int) (w : World) (h : OwnSS w lo hi (.slice A n c) xss) (hxl : xss.length = n) (hn : n ≤ 1048576) (ht : total xss ≤ 1048576) (hm0 : 0 ≤ m) (hm : m ≤ 8388608) :
    Calls Try.prog 27 #[.slice A n c, .int .i64 m] w fun e w' => e = .returned (.int .i64 (m + (total xss : Nat))) ∧ OwnSS w' lo hi (.slice A n c) (marksSS m xss) ∧ Chg lo hi w w' := by
  have H := Lib.hid (h.rows hxl); have Hx := Lib.hid hxl; clear h hxl
  go_enter Try.func27, Try.ntmps27
  go_wp2_with fail
  go_loopw [1, 5] (fun u i wr => ∃ k t : Nat, k ≤ n ∧ i = .int .i64 k ∧ u = .int .i64 (m + (t : Int)) ∧ t ≤ 1048576 ∧ Hid (t = total (xss.take k)) ∧ Hid (OwnRows wr lo hi (.slice A n c) n (fun j => if j < k then (marksSS m xss).getD j [] else xss.getD j [])) ∧ Hid (Chg lo hi w wr)) (fun u i _ => n - (intOf i).toNat)
  case atStart => exact ⟨0, 0, Nat.zero_le _, rfl, by simp, by omega, by simp [Hid, total], H.out.congr (fun j _ => by simp), Chg.refl _ _ _⟩
  case round =>
    obtain ⟨k, t, hk, rfl, rfl, ht1, htt, ho, hb⟩ := hrel
    by_cases hlt : k < n
    · obtain ⟨vs, hvl, hvo, hvr, hvd⟩ := ho.out
      have hrow' := hvr k hlt
      have ho' : OwnRows wr lo hi (.slice A n c) n (fun j => if j < k then (marksSS m xss).getD j [] else xss.getD j []) := ho.out
      obtain ⟨g, Ak, ck, nk, rfl, hc, hnk, hok, hnext⟩ := ho'.row hlt
      simp only [Nat.lt_irrefl, if_false] at hnk hok
      have hvk : vs.getD k undef = .slice Ak nk ck := by
        have h1 := World.ownsRow.cellAt hvo k (by omega)
        rw [hc] at h1
        have h2 : vs[k]? = some (vs.getD k undef) := by simp [List.getD, List.getElem?_eq_getElem (show k < vs.length by omega)]
        rw [h2] at h1
        injection h1 with h1
        exact h1.symm
      have hrow : ∀ q, Value.ownBlock (.slice Ak nk ck) = some q → lo ≤ q ∧ q < hi := fun q hq => ⟨(hok.lt q hq).1, hrow'.2 q (by rw [hvk]; exact hq)⟩
      clear hvl hvo hvr hvd hrow' hvk ho'
      have e3 := total_take_succ (xss := xss) (k := k) (by rw [Hx.out]; exact hlt)
      rw [← htt.out, hnk] at e3
      have e4 : t + nk ≤ 1048576 := by rw [← e3]; exact Nat.le_trans (total_take_le _ _) ht
      have e1 := marksSS_get xss m k (by rw [Hx.out]; exact hlt)
      rw [← htt.out, hnk] at e1
      have HOK := Lib.hid hok; have HNX := Lib.hid hnext; have HNK := Lib.hid hnk; have E3 := Lib.hid e3; have E1 := Lib.hid e1; have HROW := Lib.hid hrow; clear hok hnext hnk e3 e1 hrow
      go_wp2_with fail
      refine (markIntS_any lo Ak nk ck (xss.getD k []) (m + (t : Int)) wr HOK.out HNK.out (by omega) (by omega) (by omega)).mono ?_
      rintro e w1 ⟨rfl, o, hg⟩
      have HO := Lib.hid (HNX.out w1 _ o hg); have HB := Lib.hid (hb.out.trans (Chg.of_grown hg HROW.out)); clear o hg
      go_wp2_with fail
      go_roundw
      case rel =>
        refine ⟨k + 1, t + nk, by omega, by go_num, by go_num, e4, E3.out.symm, HO.out.congr (fun j _ => ?_), HB.out⟩
        by_cases e : j = k
        · subst e
          rw [if_pos rfl, if_pos (by omega)]
          exact E1.out.symm
        · rw [if_neg e]
          by_cases e' : j < k
          · rw [if_pos e', if_pos (by omega)]
          · rw [if_neg e', if_neg (by omega)]
      case measure => simp [intOf]; omega
    · have hkn : k = n := by omega
      have HK := Lib.hid hkn; clear hkn
      go_wp2_with fail
      go_ret
      refine ⟨ret_int (by rw [htt.out, HK.out, List.take_of_length_le (by rw [Hx.out]; exact Nat.le_refl _)]), ?_, hb.out⟩
      refine (ho.out.congr (f' := fun j => (marksSS m xss).getD j []) (fun j hj => ?_)).ss (by rw [marksSS_len, Hx.out])
      rw [HK.out, if_pos hj]

end Go.Proofs.Ythcdhkelpepeeaa

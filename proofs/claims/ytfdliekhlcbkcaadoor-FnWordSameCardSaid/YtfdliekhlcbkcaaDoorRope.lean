/-
  Ropes: trees of letters on the heap, never changed; joined.
  Ropes: made of a text, cut, turned back.
  Ropes: cut, turned back, written.
  A builder that the call has made takes a byte: the dump may hold no body of the copy's panic, so the walk is ours.
  Ropes: turned back, written as a text.
-/
import Derived.Test.YtfdliekhlcbkcaaDoorWrdI
import Derived.StillTailTactics
import Derived.Deep.RegionHeld3
import Derived.Deep.RegionWith
import Derived.Test.YtfdliekhlcbkcaaDoorBase
import Derived.Lib.Builder
import Derived.Lib.UnsafeStr
import Derived.Laws.Externs
import Derived.Test.YtfdliekhlcbkcaaDoorShelf
namespace Go.Proofs.YtfdliekhlcbkcaaDoor
open Go.RowKit

/-- Block b, below B, is a rope with the letters l. -/
inductive Rope (w : World) (B : Nat) : Nat → List UInt8 → Prop
  | leaf (b : Nat) (c : UInt8) (hb : b < B) (h : w.heap[b]? = some (.cells #[.int .i64 1, .int .u8 (c.toNat : Int), .pointer none, .pointer none] 96 (0, 0))) : Rope w B b [c]
  | node (b f r n : Nat) (xs ys : List UInt8) (hb : b < B) (h : w.heap[b]? = some (.cells #[.int .i64 (n : Int), .int .u8 0, .pointer (some ⟨f, 0, none⟩), .pointer (some ⟨r, 0, none⟩)] 96 (0, 0)))
      (hn : n = xs.length + ys.length) (hf : Rope w B f xs) (hr : Rope w B r ys) (hx : xs ≠ []) (hy : ys ≠ []) : Rope w B b (xs ++ ys)
theorem Rope.kept {w w' : World} {B b : Nat} {l : List UInt8} (h : Rope w B b l) (hb : ∀ k, k < B → w'.heap[k]? = w.heap[k]?) : Rope w' B b l := by
  induction h with
  | leaf b c hl h => exact .leaf b c hl ((hb b hl).trans h)
  | node b f r n xs ys hl h hn _ _ hx hy ih1 ih2 => exact .node b f r n xs ys hl ((hb b hl).trans h) hn ih1 ih2 hx hy
theorem Rope.under {w w' : World} {B b : Nat} {l : List UInt8} (h : Rope w B b l) (hb : Below B w w') : Rope w' B b l := h.kept hb.block
theorem Rope.mono {w : World} {B B' b : Nat} {l : List UInt8} (h : Rope w B b l) (hb : B ≤ B') : Rope w B' b l := by
  induction h with
  | leaf b c hl h => exact .leaf b c (by omega) h
  | node b f r n xs ys hl h hn _ _ hx hy ih1 ih2 => exact .node b f r n xs ys (by omega) h hn ih1 ih2 hx hy
theorem Rope.drewN {w : World} {B b : Nat} {l : List UInt8} (h : Rope w B b l) (k : Nat) : Rope (w.drewN k) B b l := h.kept fun _ _ => rfl
theorem Rope.lt {w : World} {B b : Nat} {l : List UInt8} (h : Rope w B b l) : b < B := by cases h <;> assumption
theorem Rope.ne {w : World} {B b : Nat} {l : List UInt8} (h : Rope w B b l) : l ≠ [] := by
  cases h with
  | leaf => simp
  | node _ _ _ _ xs ys _ _ _ _ _ hx _ => simp [hx]
theorem Rope.size {w : World} {B b : Nat} {l : List UInt8} (h : Rope w B b l) : w.cell? ⟨b, 0, none⟩ = some (.int .i64 (l.length : Int)) := by
  cases h with
  | leaf _ c _ h => rw [cell_of_row w b 0 _ _ (0, 0) h]; rfl
  | node _ f r n xs ys _ h hn => rw [cell_of_row w b 0 _ _ (0, 0) h, List.length_append, hn]; rfl

/-- A pointer to a rope with the letters l; nil where there are none. -/
def PRope (w : World) (B : Nat) (v : Value) (l : List UInt8) : Prop := (l = [] ∧ v = .pointer none) ∨ (l ≠ [] ∧ ∃ b, v = .pointer (some ⟨b, 0, none⟩) ∧ Rope w B b l)
theorem PRope.below {w w' : World} {B : Nat} {v : Value} {l : List UInt8} (h : PRope w B v l) (hb : Below B w w') : PRope w' B v l := by
  rcases h with h | ⟨h, b, e, hr⟩
  · exact .inl h
  · exact .inr ⟨h, b, e, hr.under hb⟩
theorem PRope.mono {w : World} {B B' : Nat} {v : Value} {l : List UInt8} (h : PRope w B v l) (hb : B ≤ B') : PRope w B' v l := by
  rcases h with h | ⟨h, b, e, hr⟩
  · exact .inl h
  · exact .inr ⟨h, b, e, hr.mono hb⟩
theorem PRope.drewN {w : World} {B : Nat} {v : Value} {l : List UInt8} (h : PRope w B v l) (k : Nat) : PRope (w.drewN k) B v l := by
  rcases h with h | ⟨h, b, e, hr⟩
  · exact .inl h
  · exact .inr ⟨h, b, e, hr.drewN k⟩
theorem Rope.p {w : World} {B b : Nat} {l : List UInt8} (h : Rope w B b l) : PRope w B (.pointer (some ⟨b, 0, none⟩)) l := .inr ⟨h.ne, b, rfl, h⟩
theorem PRope.none_ (w : World) (B : Nat) : PRope w B (.pointer none) [] := .inl ⟨rfl, rfl⟩
theorem PRope.get {w : World} {B : Nat} {v : Value} {l : List UInt8} (h : PRope w B v l) (hl : l ≠ []) : ∃ b, v = .pointer (some ⟨b, 0, none⟩) ∧ Rope w B b l := by
  rcases h with h | ⟨_, h⟩
  · exact absurd h.1 hl
  · exact h
theorem PRope.nil {w : World} {B : Nat} {v : Value} (h : PRope w B v []) : v = .pointer none := by
  rcases h with h | ⟨h, _⟩
  · exact h.2
  · exact absurd rfl h

theorem leaf_any (c : UInt8) (w : World) :
    Calls Tryd.prog 89 #[.int .u8 (c.toNat : Int)] w fun e w' => ∃ b, e = .returned (.pointer (some ⟨b, 0, none⟩)) ∧ Rope w' w'.heap.size b [c] ∧ Below w.heap.size w w' := by
  go_enter Tryd.func89, Tryd.ntmps89
  go_wp2
  go_ret
  exact ⟨_, rfl, .leaf _ c (by rw [World.size_alloc]; omega) (heap_alloc_new w _), (Below.refl _ _).alloc (Nat.le_refl _) _⟩

/-- What the first k rows hold together. -/
def cat (ls : List (List UInt8)) (k : Nat) : List UInt8 := (ls.take k).flatten
theorem cat_zero (ls : List (List UInt8)) : cat ls 0 = [] := rfl
theorem cat_succ {ls : List (List UInt8)} {k : Nat} (h : k < ls.length) : cat ls (k + 1) = cat ls k ++ ls.getD k [] := by
  unfold cat
  rw [List.take_succ_eq_append_getElem h, List.flatten_append]
  simp [List.getD, h]
theorem cat_all (ls : List (List UInt8)) : cat ls ls.length = ls.flatten := by rw [cat, List.take_length]
theorem cat_len {ls : List (List UInt8)} {k : Nat} : (cat ls k).length ≤ ls.flatten.length := by
  have h : ls.flatten = cat ls k ++ (ls.drop k).flatten := by rw [cat, ← List.flatten_append, List.take_append_drop]
  rw [h, List.length_append]; omega

set_option maxRecDepth 100000 in
set_option maxHeartbeats 1600000 in
theorem joined_any (g n c : Nat) (ls : List (List UInt8)) (w : World) (hl : ls.length = n) (hn : 0 < n) (hn2 : n ≤ 1000) (ht : ls.flatten.length ≤ 1048576)
    (h : ∀ i, i < n → ∃ v, w.cell? ⟨g, i, none⟩ = some v ∧ PRope w w.heap.size v (ls.getD i [])) :
    Calls Tryd.prog 54 #[.slice (some ⟨g, 0, none⟩) n c] w fun e w' => ∃ v, e = .returned v ∧ PRope w' w'.heap.size v ls.flatten ∧ Below w.heap.size w w' := by
  have HL := Lib.hid hl; have H := Lib.hid h; have HT := Lib.hid ht; clear hl h ht
  go_enter Tryd.func54, Tryd.ntmps54
  go_wp2_with fail
  go_loopw [3, 8] (fun v kv wr => ∃ k : Nat, k ≤ n ∧ kv = .int .i64 k ∧ Hid (PRope wr wr.heap.size v (cat ls k)) ∧ Hid (Below w.heap.size w wr)) (fun _ kv _ => n - (intOf kv).toNat)
  case atStart => exact ⟨0, Nat.zero_le _, rfl, PRope.none_ _ _, Below.refl _ _⟩
  case round =>
    obtain ⟨k, hk, rfl, hv, hb⟩ := hrel
    by_cases hlt : k < n
    · obtain ⟨r, hc, hp⟩ := H.out k hlt
      have hcr := (hb.out.cell (p := ⟨g, k, none⟩) (World.block_lt_of_cell? w _ hc)).trans hc
      have HP := Lib.hid ((hp.below hb.out).mono hb.out.size)
      have hcs := cat_succ (ls := ls) (k := k) (by rw [HL.out]; exact hlt)
      obtain ⟨x, hx⟩ : ∃ x, ls.getD k [] = x := ⟨_, rfl⟩
      rw [hx] at HP hcs
      have hcl := cat_len (ls := ls) (k := k + 1)
      have HCS := Lib.hid hcs; have HCL := Lib.hid (Nat.le_trans hcl HT.out)
      clear hc hp hx hcs hcl
      by_cases he : cat ls k = []
      · have hv2 := hv.out
        rw [he] at hv2
        obtain rfl := hv2.nil
        have HE := Lib.hid he; clear hv2 he
        rcases HP.out with ⟨hx0, rfl⟩ | ⟨hx0, b2, rfl, hb2⟩
        · have HX := Lib.hid hx0; clear hx0
          go_wp2_with fail
          go_roundw
          case rel => exact ⟨k + 1, by omega, by go_num, by rw [Hid, HCS.out, HE.out, HX.out]; exact PRope.none_ _ _, hb⟩
          case measure => simp [intOf]; omega
        · have HX := Lib.hid hb2.p; clear hx0 hb2
          go_wp2_with fail
          go_roundw
          case rel => exact ⟨k + 1, by omega, by go_num, by rw [Hid, HCS.out, HE.out, List.nil_append]; exact HX.out, hb⟩
          case measure => simp [intOf]; omega
      · obtain ⟨b, rfl, hb1⟩ := hv.out.get he
        by_cases hx : x = []
        · have hp2 := HP.out
          rw [hx] at hp2
          obtain rfl := hp2.nil
          have HX := Lib.hid hx; have HE := Lib.hid he; clear hp2 hx he hb1
          go_wp2_with fail
          go_roundw
          case rel => exact ⟨k + 1, by omega, by go_num, by rw [Hid, HCS.out, HX.out, List.append_nil]; exact hv.out, hb⟩
          case measure => simp [intOf]; omega
        · obtain ⟨b2, rfl, hb2⟩ := HP.out.get hx
          have s1 := hb1.size
          have s2 := hb2.size
          have hll : (cat ls k).length + x.length ≤ 1048576 := by have := HCL.out; rwa [HCS.out, List.length_append] at this
          have HB1 := Lib.hid hb1; have HB2 := Lib.hid hb2; have HE := Lib.hid he; have HX := Lib.hid hx
          obtain ⟨p, hpp⟩ : ∃ p, (cat ls k).length = p := ⟨_, rfl⟩
          obtain ⟨q, hqq⟩ : ∃ q, x.length = q := ⟨_, rfl⟩
          rw [hpp] at s1 hll
          rw [hqq] at s2 hll
          have HPQ : Hid (p + q = (cat ls k).length + x.length) := by rw [Hid, hpp, hqq]
          clear hb1 hb2 he hx hpp hqq
          go_wp2_with fail
          go_still_tail 12, (by kernel_rfl)
          go_wp2_with fail
          go_roundw
          case rel =>
            refine ⟨k + 1, by omega, by go_num, ?_, ?_⟩
            · rw [Hid, HCS.out]
              refine Rope.p (.node _ b b2 (p + q) _ _ (by simp) ?_ HPQ.out ((HB1.out.under ?_).mono (by simp)) ((HB2.out.under ?_).mono (by simp)) HE.out HX.out)
              · rw [Int.natCast_add]; exact heap_alloc_new wr _
              · exact below_drewN ((Below.refl _ wr).alloc (Nat.le_refl _) _) 1
              · exact below_drewN ((Below.refl _ wr).alloc (Nat.le_refl _) _) 1
            · exact below_drewN (hb.out.alloc hb.out.size _) 1
          case measure => simp [intOf]; omega
    · have hkn : k = n := by omega
      have HK := Lib.hid hkn; clear hkn
      go_wp2_with fail
      go_ret
      exact ⟨_, rfl, by have := hv.out; rw [HK.out, ← HL.out, cat_all] at this; exact this, hb.out⟩

end Go.Proofs.YtfdliekhlcbkcaaDoor

namespace Go.Proofs.YtfdliekhlcbkcaaDoor
open Go.RowKit

theorem below_undrewR {B k : Nat} {w w' : World} (h : Below B (w.drewN k) w') : Below B w w' := ⟨h.os, h.tape, h.output, h.size, h.block⟩
theorem below_undrewN0 {B : Nat} {w w' : World} (h : Below B w.drew w') : Below B w w' := ⟨h.os, h.tape, h.output, h.size, h.block⟩
theorem take_data (s : ByteArray) (k : Nat) (h : k ≤ s.size) : (s.extract 0 k).data.toList = s.data.toList.take k ∧ (s.extract 0 k).size = k := by
  have e : (s.extract 0 k).data.toList = s.data.toList.take k := by simp [ByteArray.data_extract]
  refine ⟨e, ?_⟩
  have := congrArg List.length e
  simp at this
  simp; omega
theorem drop_data (s : ByteArray) (k : Nat) : (s.extract k s.size).data.toList = s.data.toList.drop k ∧ (s.extract k s.size).size = s.size - k := by
  have e : (s.extract k s.size).data.toList = s.data.toList.drop k := by
    have : s.data.size = s.size := rfl
    simp [ByteArray.data_extract, List.extract_eq_take_drop]
    exact List.take_of_length_le (by simp)
  exact ⟨e, by simp⟩

/-- Two ropes in a row of two. -/
theorem joined_two (v1 v2 : Value) (xs ys : List UInt8) (w : World) (hl : xs.length + ys.length ≤ 1048576) (h1 : PRope w w.heap.size v1 xs) (h2 : PRope w w.heap.size v2 ys) :
    Calls Tryd.prog 54 #[.slice (some ⟨w.heap.size, 0, none⟩) 2 2] (w.alloc (.cells #[v1, v2] 55)) fun e w' => ∃ v, e = .returned v ∧ PRope w' w'.heap.size v (xs ++ ys) ∧ Below w.heap.size w w' := by
  have hb : Below w.heap.size w (w.alloc (.cells #[v1, v2] 55)) := (Below.refl _ _).alloc (Nat.le_refl _) _
  refine (joined_any w.heap.size 2 2 [xs, ys] _ rfl (by omega) (by omega) (by simp; omega) (fun i hi => ?_)).mono ?_
  · match i, hi with
    | 0, _ => exact ⟨v1, by rw [cell_of_row _ _ 0 _ _ (0, 0) (heap_alloc_new w _)]; rfl, (h1.below hb).mono hb.size⟩
    | 1, _ => exact ⟨v2, by rw [cell_of_row _ _ 1 _ _ (0, 0) (heap_alloc_new w _)]; rfl, (h2.below hb).mono hb.size⟩
    | _ + 2, h => exact absurd h (by omega)
  · rintro e w' ⟨v, he, hp, hb'⟩
    refine ⟨v, he, by simpa using hp, hb.trans (hb'.mono hb.size)⟩

set_option maxRecDepth 100000 in
set_option maxHeartbeats 1600000 in
theorem ropeOf_any : ∀ (n : Nat) (s : ByteArray) (w : World), s.size = n → 1 ≤ n → n ≤ 1048576 →
    Calls Tryd.prog 52 #[.string s] w fun e w' => ∃ b, e = .returned (.pointer (some ⟨b, 0, none⟩)) ∧ Rope w' w'.heap.size b s.data.toList ∧ Below w.heap.size w w' := by
  intro n
  induction n using Nat.strongRecOn with
  | ind n ih =>
  intro s w hs h1 hn
  by_cases h : s.size = 1
  · have hd : ((s.size : Int) == 1) = true := by rw [h]; rfl
    have h0 : 0 < s.size := by omega
    have hl : s.data.toList = [s[0]] := by
      obtain ⟨a, ha⟩ := List.length_eq_one_iff.1 (show s.data.toList.length = 1 by rw [len_str]; exact h)
      have hg := gb_at s h0
      rw [ha] at hg ⊢
      rw [← hg]; rfl
    have HL := Lib.hid hl; clear hl ih hs
    go_enter Tryd.func52, Tryd.ntmps52
    go_wp2_with (go_at_call 89; refine (leaf_any _ _).mono ?_; rintro e w1 ⟨b, rfl, hr, hb⟩; have HR := Lib.hid hr; have HB := Lib.hid hb; clear hr hb)
    go_ret
    exact ⟨b, rfl, by rw [HL.out]; exact HR.out, HB.out⟩
  · have hd : ((s.size : Int) == 1) = false := by simp; omega
    obtain ⟨k, hk⟩ : ∃ k, s.size / 2 = k := ⟨_, rfl⟩
    have hk1 : 1 ≤ k ∧ k < s.size := by omega
    have hdv : (s.size : Int) / 2 = (k : Int) := by omega
    have hdv2 : (s.size : Int).tdiv 2 = (k : Int) := by rw [Int.tdiv_eq_ediv_of_nonneg (by omega)]; omega
    have t1 := take_data s k (by omega)
    have t2 := drop_data s k
    have R1 : Hid (∀ W, Calls Tryd.prog 52 #[.string (s.extract 0 k)] W fun e w' => ∃ b, e = .returned (.pointer (some ⟨b, 0, none⟩)) ∧ Rope w' w'.heap.size b (s.data.toList.take k) ∧ Below W.heap.size W w') := fun W => by
      have := ih k (by omega) (s.extract 0 k) W t1.2 hk1.1 (by omega)
      rwa [t1.1] at this
    have R2 : Hid (∀ W, Calls Tryd.prog 52 #[.string (s.extract k s.size)] W fun e w' => ∃ b, e = .returned (.pointer (some ⟨b, 0, none⟩)) ∧ Rope w' w'.heap.size b (s.data.toList.drop k) ∧ Below W.heap.size W w') := fun W => by
      have := ih (s.size - k) (by omega) (s.extract k s.size) W t2.2 (by omega) (by omega)
      rwa [t2.1] at this
    have HN := Lib.hid hs; have HK := Lib.hid hk
    have hs2 : s.size ≤ 1048576 := by omega
    clear t1 t2 ih hs hk
    obtain ⟨hk1, hk2⟩ := hk1
    go_enter Tryd.func52, Tryd.ntmps52
    go_wp2_with fail
    have HLEN : Hid ((s.data.toList.take k).length + (s.data.toList.drop k).length ≤ 1048576) := by
      rw [Hid, ← List.length_append, List.take_append_drop, len_str]; exact hs2
    go_region_with (first
      | (go_at_call 52; (with_reducible refine (R1.out _).mono ?_); rintro e wa ⟨b1, rfl, hr1, hb1⟩; have HR1 := Lib.hid hr1; have HB1 := Lib.hid hb1; clear hr1 hb1)
      | (go_at_call 52; (with_reducible refine (R2.out _).mono ?_); rintro e wb ⟨b2, rfl, hr2, hb2⟩; have HR2 := Lib.hid hr2; have HB2 := Lib.hid hb2; clear hr2 hb2)
      | (go_at_call 54; (first
          | refine (joined_two (.pointer (some ⟨b1, 0, none⟩)) (.pointer (some ⟨b2, 0, none⟩)) _ _ wb HLEN.out ((HR1.out.under HB2.out).mono HB2.out.size).p HR2.out.p).mono ?_
          | refine (joined_two (.pointer (some ⟨b1, 0, none⟩)) (.pointer (some ⟨b2, 0, none⟩)) _ _ wa HLEN.out HR1.out.p ((HR2.out.under HB1.out).mono HB1.out.size).p).mono ?_); rintro e wc ⟨v, rfl, hp, hb⟩; have HP := Lib.hid hp; have HBC := Lib.hid hb; clear hp hb))
    all_goals
      go_wp2_with fail
      go_ret
      have hp := HP.out
      rw [List.take_append_drop] at hp
      obtain ⟨b, rfl, hr⟩ := hp.get (fun e => by have h0 := len_str s; rw [e] at h0; simp at h0; omega)
      refine ⟨b, rfl, hr, ?_⟩
      first
        | exact (below_undrewN0 HB1.out).trans ((HB2.out.mono HB1.out.size).trans (HBC.out.mono (Nat.le_trans HB1.out.size HB2.out.size)))
        | exact (below_undrewN0 HB2.out).trans ((HB1.out.mono HB2.out.size).trans (HBC.out.mono (Nat.le_trans HB2.out.size HB1.out.size)))

end Go.Proofs.YtfdliekhlcbkcaaDoor

namespace Go.Proofs.YtfdliekhlcbkcaaDoor
open Go.RowKit

/-- Below B the heap of W is that of w. -/
def Kp (B : Nat) (w W : World) : Prop := (∀ j, j < B → W.heap[j]? = w.heap[j]?) ∧ B ≤ W.heap.size
theorem Kp.cells {B b : Nat} {w W : World} {cs : Array Value} {t : TypeId} (h : Kp B w W) (hb : b < B) (hc : w.heap[b]? = some (.cells cs t (0, 0))) (j : Nat) : W.cell? ⟨b, j, none⟩ = cs[j]? :=
  cell_of_row W b j cs t (0, 0) ((h.1 b hb).trans hc)
theorem Kp.next {B : Nat} {w W W' : World} (h : Kp B w W) (hb : Below W.heap.size W W') : Kp B w W' :=
  ⟨fun j hj => (hb.block j (Nat.lt_of_lt_of_le hj h.2)).trans (h.1 j hj), Nat.le_trans h.2 hb.size⟩
theorem Kp.drew {B : Nat} {w W : World} (h : Kp B w W) : Kp B w W.drew := h
theorem Kp.rope {B b : Nat} {w W : World} {l : List UInt8} (h : Kp B w W) (hr : Rope w B b l) : Rope W W.heap.size b l := (hr.kept h.1).mono h.2
theorem Kp.size {B b : Nat} {w W : World} {l : List UInt8} (h : Kp B w W) (hr : Rope w B b l) : W.cell? ⟨b, 0, none⟩ = some (.int .i64 (l.length : Int)) := (h.rope hr).size

def CutOf (l : List UInt8) (k : Nat) (W : World) (e : Ending) (w' : World) : Prop := ∃ v1 v2, e = .returned (.tuple #[v1, v2]) ∧ PRope w' w'.heap.size v1 (l.take k) ∧ PRope w' w'.heap.size v2 (l.drop k) ∧ Below W.heap.size W w'

theorem cut_zero (b : Nat) (l : List UInt8) (W : World) (h : Rope W W.heap.size b l) :
    Calls Tryd.prog 53 #[.pointer (some ⟨b, 0, none⟩), .int .i64 ((0 : Nat) : Int)] W (CutOf l 0 W) := by
  have H := Lib.hid h; clear h
  go_enter Tryd.func53, Tryd.ntmps53
  go_wp2
  go_ret2
  exact ⟨_, _, rfl, by rw [List.take_zero]; exact PRope.none_ _ _, by rw [List.drop_zero]; exact H.out.p, Below.refl _ _⟩
theorem cut_whole (b : Nat) (l : List UInt8) (W : World) (h : Rope W W.heap.size b l) (hl : l.length ≤ 1048576) :
    Calls Tryd.prog 53 #[.pointer (some ⟨b, 0, none⟩), .int .i64 (l.length : Int)] W (CutOf l l.length W) := by
  have hc := h.size
  have hp : 0 < l.length := List.length_pos_iff.2 h.ne
  have H := Lib.hid h; clear h
  obtain ⟨n, hn⟩ : ∃ n, l.length = n := ⟨_, rfl⟩
  rw [hn] at hc hp hl
  rw [hn]
  have HN := Lib.hid hn; clear hn
  have hd : ((n : Int) == 0) = false := by simp; omega
  go_enter Tryd.func53, Tryd.ntmps53
  go_wp2
  go_ret2
  exact ⟨_, _, rfl, by rw [← HN.out, List.take_length]; exact H.out.p, by rw [← HN.out, List.drop_length]; exact PRope.none_ _ _, Below.refl _ _⟩

set_option maxRecDepth 100000 in
set_option maxHeartbeats 1600000 in
theorem cut_any {w : World} {B b : Nat} {l : List UInt8} (h : Rope w B b l) : ∀ (W : World), Kp B w W → l.length ≤ 1048576 → ∀ k, k ≤ l.length →
    Calls Tryd.prog 53 #[.pointer (some ⟨b, 0, none⟩), .int .i64 (k : Int)] W (CutOf l k W) := by
  induction h with
  | leaf b c hb h =>
    intro W hk hl k hkl
    have hr := hk.rope (.leaf b c hb h)
    by_cases h0 : k = 0
    · subst h0; exact cut_zero b _ W hr
    · have : k = ([c] : List UInt8).length := by simp at hkl ⊢; omega
      rw [this]; exact cut_whole b _ W hr hl
  | node b f r n xs ys hb h hn hf hr hx hy ih1 ih2 =>
    intro W hk hl k hkl
    have hrope := hk.rope (.node b f r n xs ys hb h hn hf hr hx hy)
    by_cases h0 : k = 0
    · subst h0; exact cut_zero b _ W hrope
    by_cases h1 : k = (xs ++ ys).length
    · subst h1; exact cut_whole b _ W hrope hl
    have c0 : W.cell? ⟨b, 0, none⟩ = some (.int .i64 (n : Int)) := (hk.cells hb h 0).trans rfl
    have c2 : W.cell? ⟨b, 2, none⟩ = some (.pointer (some ⟨f, 0, none⟩)) := (hk.cells hb h 2).trans rfl
    have c3 : W.cell? ⟨b, 3, none⟩ = some (.pointer (some ⟨r, 0, none⟩)) := (hk.cells hb h 3).trans rfl
    have cf := hk.size hf
    rw [List.length_append] at hkl h1 hl
    obtain ⟨p, hp⟩ : ∃ p, xs.length = p := ⟨_, rfl⟩
    rw [hp] at hkl h1 hl cf hn
    have hd0 : ((k : Int) == 0) = false := by simp; omega
    have hd1 : ((k : Int) == (n : Int)) = false := by simp; omega
    have HP := Lib.hid hp; have HH := Lib.hid h
    have HF := Lib.hid hf; have HR := Lib.hid hr; have HK := Lib.hid hk
    have hn2 : n ≤ 1048576 := by omega
    have HN := Lib.hid hn
    have HL := Lib.hid hl
    have htk : xs.take k ≠ [] := by
      intro e; have := congrArg List.length e; rw [List.length_take] at this; simp at this; rcases this with h | h
      · exact h0 h
      · exact hx h
    by_cases hlt : k < p
    · have I1 := Lib.hid (ih1 W hk (by omega) k (by omega))
      have HT : Hid (xs.take k ≠ []) := htk
      have HD : Hid (xs.drop k ≠ []) := by intro e; have := congrArg List.length e; rw [List.length_drop, hp] at this; simp at this; omega
      have E1 : Hid ((xs ++ ys).take k = xs.take k) := by rw [Hid, List.take_append_of_le_length (by omega)]
      have E2 : Hid ((xs ++ ys).drop k = xs.drop k ++ ys) := by rw [Hid, List.drop_append_of_le_length (by omega)]
      have E3 : Hid ((xs.drop k).length + ys.length ≤ 1048576) := by rw [Hid, List.length_drop]; omega
      clear ih1 ih2 hf hr hx hy hp h hk hrope h0 h1 hn htk hl
      go_enter Tryd.func53, Tryd.ntmps53
      go_wp2_with (first
        | (go_at_call 53; refine I1.out.mono ?_; rintro e w1 ⟨v1, v2, rfl, p1, p2, b1⟩; have HK1 := Lib.hid (HK.out.next b1); have P1 := Lib.hid p1; have P2 := Lib.hid p2; have B1 := Lib.hid b1; obtain ⟨q1, rfl, -⟩ := p1.get HT.out; obtain ⟨q2, rfl, -⟩ := p2.get HD.out; have c31 : w1.cell? ⟨b, 3, none⟩ = some (.pointer (some ⟨r, 0, none⟩)) := (HK1.out.cells hb HH.out 3).trans rfl; clear p1 p2 b1)
        | (go_at_call 54; refine (joined_two (.pointer (some ⟨q2, 0, none⟩)) (.pointer (some ⟨r, 0, none⟩)) _ _ w1 E3.out P2.out (HK1.out.rope HR.out).p).mono ?_; rintro e w2 ⟨v, rfl, p3, b2⟩; have P3 := Lib.hid p3; have B2 := Lib.hid b2; clear p3 b2))
      go_ret2
      exact ⟨_, _, rfl, by rw [E1.out]; exact (P1.out.below B2.out).mono B2.out.size, by rw [E2.out]; exact P3.out, B1.out.trans (B2.out.mono B1.out.size)⟩
    · obtain ⟨m, hm⟩ : ∃ m, m = k - p := ⟨_, rfl⟩
      have hkp : (k : Int) - (p : Int) = (m : Int) := by omega
      have hmw : IntKind.i64.wrap (m : Int) = (m : Int) := IntWalk.i64_in _ (by omega)
      have hd2 : decide ((k : Int) < (p : Int)) = false := by simp; omega
      have I2 := Lib.hid (ih2 W.drew hk.drew (by omega) m (by omega))
      have HD : Hid (ys.drop m ≠ []) := by intro e; have := congrArg List.length e; rw [List.length_drop] at this; simp at this; omega
      have E1 : Hid ((xs ++ ys).take k = xs ++ ys.take m) := by rw [Hid, List.take_append, hp, hm, List.take_of_length_le (by omega)]
      have E2 : Hid ((xs ++ ys).drop k = ys.drop m) := by rw [Hid, List.drop_append, hp, hm, List.drop_of_length_le (by omega), List.nil_append]
      have E3 : Hid (xs.length + (ys.take m).length ≤ 1048576) := by rw [Hid, List.length_take]; omega
      clear ih1 ih2 hf hr hx hy hp h hk hrope h0 h1 hn htk hl hm
      go_enter Tryd.func53, Tryd.ntmps53
      go_wp2_with fail
      go_region_with (go_at_call 53; (with_reducible refine I2.out.mono ?_); rintro e w1 ⟨v1, v2, rfl, p1, p2, b1⟩; have HK1 := Lib.hid (HK.out.drew.next b1); have P1 := Lib.hid p1; have P2 := Lib.hid p2; have B1 := Lib.hid b1; have c21 : w1.cell? ⟨b, 2, none⟩ = some (.pointer (some ⟨f, 0, none⟩)) := (HK1.out.cells hb HH.out 2).trans rfl; obtain ⟨q2, rfl, -⟩ := p2.get HD.out; clear p2 b1)
      all_goals
        rcases p1 with ⟨e0, rfl⟩ | ⟨e0, q1, rfl, -⟩
        all_goals
          have HE0 := Lib.hid e0; clear e0
          go_wp2_with (go_at_call 54; refine (joined_two (.pointer (some ⟨f, 0, none⟩)) _ _ _ w1 E3.out (HK1.out.rope HF.out).p P1.out).mono ?_; rintro e w2 ⟨v, rfl, p3, b2⟩; have P3 := Lib.hid p3; have B2 := Lib.hid b2; clear p3 b2)
          go_ret2
          exact ⟨_, _, rfl, by rw [E1.out]; exact P3.out, by rw [E2.out]; exact (P2.out.below B2.out).mono B2.out.size, (below_undrewN0 B1.out).trans (B2.out.mono B1.out.size)⟩

end Go.Proofs.YtfdliekhlcbkcaaDoor

namespace Go.Proofs.YtfdliekhlcbkcaaDoor
open Go.RowKit

abbrev BT : TypeId := 100
/-- The builder in block b, from B on, holds the bytes l. -/
def BldN (w : World) (B b : Nat) (l : List UInt8) : Prop := Lib.IsBuilder 100 5 B b (Lib.byteCells l) w
theorem bld_size : ∃ j, Tryd.prog.info? 100 = some j ∧ j.size = 2 := by
  have h : (Tryd.prog.info? 100).map (·.size) = some 2 := by kernel_rfl
  exact Option.map_eq_some_iff.1 h
theorem bld_byte : (Tryd.prog.info? 5).map (fun i => (i.zero, i.size, i.bytes)) = some (some (.int .u8 0), 1, 1) := by kernel_rfl

set_option maxRecDepth 100000 in
theorem copyCheck_used (b : Nat) (w : World) (h0 : w.cell? ⟨b, 0, none⟩ = some (.pointer (some ⟨b, 0, none⟩))) :
    Calls Tryd.prog 120 #[.pointer (some ⟨b, 0, none⟩)] w fun e w' => e = .returned (.tuple #[]) ∧ w = w' := by
  obtain ⟨j, hj, -⟩ := bld_size
  have hq := Lib.run_neq_ptr_same (P := Tryd.prog) w ⟨b, 0, none⟩ Tryd.underlying98 hj
  clear hj
  go_enter Tryd.func120, Tryd.ntmps120
  go_wp2
  exact bodyPost_end (by simp [results, Tryd.results120, go_sem]) rfl ⟨rfl, rfl⟩

set_option maxRecDepth 100000 in
theorem copyCheck_fresh (b : Nat) (w : World) (h0 : w.cell? ⟨b, 0, none⟩ = some (.pointer none)) (hsh : w.shape? b = some (100, 2)) (hfz : w.frozen? ⟨b, 0, none⟩ = false) :
    Calls Tryd.prog 120 #[.pointer (some ⟨b, 0, none⟩)] w fun e w' => e = .returned (.tuple #[]) ∧ w' = w.setCell ⟨b, 0, none⟩ (.pointer (some ⟨b, 0, none⟩)) := by
  obtain ⟨j, hj, hjs⟩ := bld_size
  have q1 := Lib.run_to_unsafe (P := Tryd.prog) w ⟨b, 0, none⟩ Tryd.underlying98 Tryd.underlying139 hj (by rw [hjs]; decide) hsh (Nat.zero_lt_succ 1)
  have q2 := Lib.run_from_unsafe (P := Tryd.prog) w ⟨b, 0, none⟩ Tryd.underlying139 Tryd.underlying98 hj hsh (by kernel_rfl)
  clear hj hjs hsh
  go_enter Tryd.func120, Tryd.ntmps120
  go_wp2
  rw [run_callFunc_extern Tryd.func131 (by kernel_rfl) (by kernel_rfl) (by kernel_rfl) (e := Extern.AbiNoEscape.same) (by kernel_rfl), Lib.run_noEscape]
  simp only [Result.andThen]
  rw [Oper.upon_value]
  go_wp2
  exact bodyPost_end (by simp [results, Tryd.results120, go_sem]) rfl ⟨rfl, rfl⟩

theorem copyCheck_any (B b : Nat) (l : List UInt8) (w : World) (h : BldN w B b l) :
    Calls Tryd.prog 120 #[.pointer (some ⟨b, 0, none⟩)] w fun e w' => e = .returned (.tuple #[]) ∧ Lib.BuilderAt 100 5 B b (.pointer (some ⟨b, 0, none⟩)) (Lib.byteCells l) w' ∧ Below B w w' := by
  rcases h with h | h
  · refine (copyCheck_fresh b w h.cell0 h.shape h.frozen0).mono ?_
    rintro e w' ⟨rfl, rfl⟩
    exact ⟨rfl, h.used _, (Below.refl B w).setCell (p := ⟨b, 0, none⟩) h.1 _⟩
  · refine (copyCheck_used b w h.cell0).mono ?_
    rintro e w' ⟨rfl, rfl⟩
    exact ⟨rfl, h, Below.refl B _⟩

theorem byteCells_snoc (l : List UInt8) (c : UInt8) : Lib.byteCells (l ++ [c]) = Lib.byteCells l ++ [.int .u8 (c.toNat : Int)] := by simp [Lib.byteCells]

set_option maxHeartbeats 800000 in
theorem writeByte_any (B b : Nat) (l : List UInt8) (c : UInt8) (w : World) (h : BldN w B b l) (hl : l.length ≤ 1048576) (hB : B ≤ w.heap.size) :
    Calls Tryd.prog 107 #[.pointer (some ⟨b, 0, none⟩), .int .u8 (c.toNat : Int)] w fun e w' => e = .returned .nilIface ∧ BldN w' B b (l ++ [c]) ∧ Below B w w' := by
  obtain ⟨i0, hi, hz0, hz1, hz2⟩ := info_parts bld_byte
  have HC := Lib.hid (copyCheck_any B b l w h)
  have HLL : Hid ((Lib.byteCells l).length = l.length) := by rw [Hid]; simp [Lib.byteCells]
  clear h
  go_enter Tryd.func107, Tryd.ntmps107
  go_wp2_with fail
  refine HC.out.mono ?_
  rintro e w1 ⟨rfl, h1, hb1⟩
  obtain ⟨hBb, v, hbk, hown, hne⟩ := h1
  have c0 : w1.cell? ⟨b, 0, none⟩ = some (.pointer (some ⟨b, 0, none⟩)) := cell_of_row w1 b 0 _ _ (0, 0) hbk
  have c1 : w1.cell? ⟨b, 1, none⟩ = some v := cell_of_row w1 b 1 _ _ (0, 0) hbk
  have hbs := hb1.size
  rw [HLL.out] at hown
  have HO := Lib.hid hown; have HBK := Lib.hid hbk; have HB1 := Lib.hid hb1; have HNE := Lib.hid hne
  have hlt : b < w1.heap.size := World.block_lt_of_cell? w1 _ c0
  clear hown hbk hb1 hne
  obtain ⟨ao, cap, rfl⟩ : ∃ ao cap, v = .slice ao l.length cap := by
    rcases HO.out.2 with ⟨hv, h0⟩ | ⟨g, cap, cur, hv, _⟩
    · exact ⟨none, 0, by rw [hv, h0]⟩
    · exact ⟨_, _, hv⟩
  go_wp2_with (
    at_builtin
    refine wpList_append_own _ rfl _ _ 22 rfl B 5 i0 (.int .u8 0) 1 1 Tryd.underlying22 hi hz0 hz1 hz2 rfl (by decide) _ _ _ rfl (HO.out.alloc _) ⟨w1.heap.size, 0, none⟩ 1 1 [.int .u8 (c.toNat : Int)] rfl rfl (cell_one_new _ _ _) (by intro u hu; simp at hu; subst hu; rfl) (by unfold maxLen; omega) (by omega) (by rw [World.size_alloc]; omega) ?_
    intro v' w2 hown' hgrow _
    have HO2 := Lib.hid hown'
    have HG := Lib.hid hgrow
    clear hown' hgrow
    have hb2 : w2.heap[b]? = some (.cells #[.pointer (some ⟨b, 0, none⟩), .slice ao l.length cap] 100 (0, 0)) := by
      rw [HG.out.block b (by rw [World.size_alloc]; omega) (fun e => HNE.out e.symm), Lib.alloc_old w1 _ b hlt]
      exact HBK.out
    have d0 : w2.cell? ⟨b, 0, none⟩ = some (.pointer (some ⟨b, 0, none⟩)) := cell_of_row w2 b 0 _ _ (0, 0) hb2
    have d1 : w2.cell? ⟨b, 1, none⟩ = some (.slice ao l.length cap) := cell_of_row w2 b 1 _ _ (0, 0) hb2
    have f1 : w2.frozen? ⟨b, 1, none⟩ = false := frozen_of_row w2 b 1 _ _ hb2
    have HB2 := Lib.hid hb2
    clear hb2 c0 c1
    obtain ⟨g, cap', rfl⟩ : ∃ g cap', v' = .slice (some ⟨g, 0, none⟩) (l.length + 1) cap' := by
      rcases HO2.out.2 with ⟨_, h0⟩ | ⟨g, cap', cur, hv, _⟩
      · omega
      · exact ⟨g, cap', hv⟩)
  go_ret
  refine ⟨rfl, .inr ?_, ?_⟩
  · have ho := HO2.out
    have e : (Lib.byteCells (l ++ [c])).length = l.length + 1 := by simp [Lib.byteCells]
    refine Lib.BuilderAt.put (T := 100) (e := 5) hBb HB2.out (bs' := Lib.byteCells (l ++ [c])) ?_ (by decide)
    rw [e, byteCells_snoc]
    exact ho
  · exact ((HB1.out.alloc (by have := HB1.out.size; omega) _).grown HG.out (by rw [World.size_alloc]; have := HB1.out.size; omega) (fun k hk => (HO.out.lt k hk).1)).setCell (p := ⟨b, 1, none⟩) hBb _

end Go.Proofs.YtfdliekhlcbkcaaDoor

namespace Go.Proofs.YtfdliekhlcbkcaaDoor
open Go.RowKit

theorem xor_oth (c : UInt8) : bits .xor .u8 (c.toNat : Int) 32 = ((oth c).toNat : Int) := by
  have h : ∀ n, n < 256 → bits .xor .u8 ((UInt8.ofNat n).toNat : Int) 32 = ((oth (UInt8.ofNat n)).toNat : Int) := by decide +kernel
  have := h c.toNat (by have := c.toNat_lt; omega)
  rwa [show UInt8.ofNat c.toNat = c from by simp] at this
theorem other_any (c : UInt8) (w : World) :
    Calls Tryd.prog 92 #[.int .u8 (c.toNat : Int)] w fun e w' => e = .returned (.int .u8 ((oth c).toNat : Int)) ∧ w = w' := by
  have E := Lib.hid (xor_oth c)
  go_enter Tryd.func92, Tryd.ntmps92
  go_wp2
  go_ret
  exact ⟨ret_intE E.out, rfl⟩

def BackOf (l : List UInt8) (W : World) (e : Ending) (w' : World) : Prop := ∃ q, e = .returned (.pointer (some ⟨q, 0, none⟩)) ∧ Rope w' w'.heap.size q (backW l) ∧ Below W.heap.size W w'

set_option maxRecDepth 100000 in
set_option maxHeartbeats 1600000 in
theorem ropeBack_any {w : World} {B b : Nat} {l : List UInt8} (h : Rope w B b l) : ∀ (W : World), Kp B w W → l.length ≤ 1048576 →
    Calls Tryd.prog 56 #[.pointer (some ⟨b, 0, none⟩)] W (BackOf l W) := by
  induction h with
  | leaf b c hb h =>
    intro W hk hl
    have c0 : W.cell? ⟨b, 0, none⟩ = some (.int .i64 1) := (hk.cells hb h 0).trans rfl
    have c1 : W.cell? ⟨b, 1, none⟩ = some (.int .u8 (c.toNat : Int)) := (hk.cells hb h 1).trans rfl
    clear hk h
    go_enter Tryd.func56, Tryd.ntmps56
    go_wp2_with (first
      | (go_at_call 92; refine (other_any _ _).mono ?_; rintro e w' ⟨rfl, rfl⟩)
      | (go_at_call 89; refine (leaf_any _ _).mono ?_; rintro e w1 ⟨q, rfl, hr, hb1⟩; have HR := Lib.hid hr; have HB := Lib.hid hb1; clear hr hb1))
    go_ret
    exact ⟨q, rfl, HR.out, HB.out⟩
  | node b f r n xs ys hb h hn hf hr hx hy ih1 ih2 =>
    intro W hk hl
    have c0 : W.cell? ⟨b, 0, none⟩ = some (.int .i64 (n : Int)) := (hk.cells hb h 0).trans rfl
    have c2 : W.cell? ⟨b, 2, none⟩ = some (.pointer (some ⟨f, 0, none⟩)) := (hk.cells hb h 2).trans rfl
    have c3 : W.cell? ⟨b, 3, none⟩ = some (.pointer (some ⟨r, 0, none⟩)) := (hk.cells hb h 3).trans rfl
    rw [List.length_append] at hl
    have hxp : 0 < xs.length := List.length_pos_iff.2 hx
    have hyp : 0 < ys.length := List.length_pos_iff.2 hy
    have hd : ((n : Int) == 1) = false := by simp; omega
    have I1 : Hid (∀ W', Kp B w W' → Calls Tryd.prog 56 #[.pointer (some ⟨f, 0, none⟩)] W' (BackOf xs W')) := fun W' k => ih1 W' k (by omega)
    have I2 : Hid (∀ W', Kp B w W' → Calls Tryd.prog 56 #[.pointer (some ⟨r, 0, none⟩)] W' (BackOf ys W')) := fun W' k => ih2 W' k (by omega)
    have HK := Lib.hid hk; have HH := Lib.hid h
    have HLEN : Hid ((backW ys).length + (backW xs).length ≤ 1048576) := by rw [Hid, backW_len, backW_len]; omega
    clear ih1 ih2 hf hr hx hy h hk hn hl hxp hyp
    go_enter Tryd.func56, Tryd.ntmps56
    go_wp2_with fail
    go_region_with (first
      | (go_at_call 56; (first | (with_reducible refine (I1.out _ HK.out.drew).mono ?_) | (with_reducible refine (I1.out _ HKB.out).mono ?_)); rintro e wa ⟨q1, rfl, hr1, hb1⟩; have HKA := Lib.hid (Kp.next (by first | exact HK.out.drew | exact HKB.out) hb1 : Kp B w wa); have HR1 := Lib.hid hr1; have HB1 := Lib.hid hb1; have c3a : wa.cell? ⟨b, 3, none⟩ = some (.pointer (some ⟨r, 0, none⟩)) := (HKA.out.cells hb HH.out 3).trans rfl; clear hr1 hb1)
      | (go_at_call 56; (first | (with_reducible refine (I2.out _ HK.out.drew).mono ?_) | (with_reducible refine (I2.out _ HKA.out).mono ?_)); rintro e wb ⟨q2, rfl, hr2, hb2⟩; have HKB := Lib.hid (Kp.next (by first | exact HK.out.drew | exact HKA.out) hb2 : Kp B w wb); have HR2 := Lib.hid hr2; have HB2 := Lib.hid hb2; have c2b : wb.cell? ⟨b, 2, none⟩ = some (.pointer (some ⟨f, 0, none⟩)) := (HKB.out.cells hb HH.out 2).trans rfl; clear hr2 hb2)
      | (go_at_call 54; (first
          | refine (joined_two (.pointer (some ⟨q2, 0, none⟩)) (.pointer (some ⟨q1, 0, none⟩)) _ _ wa HLEN.out ((HR2.out.under HB1.out).mono HB1.out.size).p HR1.out.p).mono ?_
          | refine (joined_two (.pointer (some ⟨q2, 0, none⟩)) (.pointer (some ⟨q1, 0, none⟩)) _ _ wb HLEN.out HR2.out.p ((HR1.out.under HB2.out).mono HB2.out.size).p).mono ?_); rintro e wc ⟨v, rfl, hp, hbc⟩; have HP := Lib.hid hp; have HBC := Lib.hid hbc; clear hp hbc))
    all_goals
      go_wp2_with fail
      go_ret
      have hp := HP.out
      rw [← backW_append] at hp
      obtain ⟨q, rfl, hr⟩ := hp.get (fun e => by
        have h1 := congrArg List.length e
        have h2 := HR1.out.ne
        rw [backW_append, List.length_append] at h1
        have : (backW xs).length ≠ 0 := fun e => h2 (List.eq_nil_of_length_eq_zero e)
        rw [List.length_nil] at h1; omega)
      refine ⟨q, rfl, hr, ?_⟩
      first
        | exact (below_undrewN0 HB1.out).trans ((HB2.out.mono HB1.out.size).trans (HBC.out.mono (Nat.le_trans HB1.out.size HB2.out.size)))
        | exact (below_undrewN0 HB2.out).trans ((HB1.out.mono HB2.out.size).trans (HBC.out.mono (Nat.le_trans HB2.out.size HB1.out.size)))

def WroteOf (D bb : Nat) (l m : List UInt8) (W : World) (e : Ending) (w' : World) : Prop := e = .returned (.tuple #[]) ∧ BldN w' D bb (m ++ l) ∧ Below D W w'

set_option maxRecDepth 100000 in
set_option maxHeartbeats 1600000 in
theorem write_any {w : World} {B b : Nat} {l : List UInt8} (h : Rope w B b l) : ∀ (W : World) (D bb : Nat) (m : List UInt8), Kp B w W → B ≤ D → D ≤ W.heap.size → BldN W D bb m → m.length + l.length ≤ 1048576 →
    Calls Tryd.prog 90 #[.pointer (some ⟨b, 0, none⟩), .pointer (some ⟨bb, 0, none⟩)] W (WroteOf D bb l m W) := by
  induction h with
  | leaf b c hb h =>
    intro W D bb m hk hBD hDW hbl hl
    have c0 : W.cell? ⟨b, 0, none⟩ = some (.int .i64 1) := (hk.cells hb h 0).trans rfl
    have c1 : W.cell? ⟨b, 1, none⟩ = some (.int .u8 (c.toNat : Int)) := (hk.cells hb h 1).trans rfl
    have HC := Lib.hid (writeByte_any D bb m c W hbl (by omega) hDW)
    clear hk h hbl
    go_enter Tryd.func90, Tryd.ntmps90
    go_wp2_with (go_at_call 107; refine HC.out.mono ?_; rintro e w1 ⟨rfl, h1, h2⟩; have H1 := Lib.hid h1; have H2 := Lib.hid h2; clear h1 h2)
    exact bodyPost_ret (v := .tuple #[]) (by simp [results, Tryd.results90, go_sem]) rfl ⟨rfl, H1.out, H2.out⟩
  | node b f r n xs ys hb h hn hf hr hx hy ih1 ih2 =>
    intro W D bb m hk hBD hDW hbl hl
    have c0 : W.cell? ⟨b, 0, none⟩ = some (.int .i64 (n : Int)) := (hk.cells hb h 0).trans rfl
    have c2 : W.cell? ⟨b, 2, none⟩ = some (.pointer (some ⟨f, 0, none⟩)) := (hk.cells hb h 2).trans rfl
    rw [List.length_append] at hl
    have hxp : 0 < xs.length := List.length_pos_iff.2 hx
    have hyp : 0 < ys.length := List.length_pos_iff.2 hy
    have hd : ((n : Int) == 1) = false := by simp; omega
    have I1 := Lib.hid (ih1 W D bb m hk hBD hDW hbl (by omega))
    have I2 := Lib.hid (fun W' k h1 h2 => ih2 W' D bb (m ++ xs) k hBD h1 h2 (by rw [List.length_append]; omega))
    have HK := Lib.hid hk; have HH := Lib.hid h
    clear ih1 ih2 hf hr hx hy h hk hn hl hxp hyp hbl
    go_enter Tryd.func90, Tryd.ntmps90
    go_wp2_with fail
    refine I1.out.mono ?_
    rintro e w1 ⟨rfl, h1, h2⟩
    have HK1 : Hid (Kp B w w1) := ⟨fun j hj => (h2.block j (by omega)).trans (HK.out.1 j hj), Nat.le_trans HK.out.2 h2.size⟩
    have c3 : w1.cell? ⟨b, 3, none⟩ = some (.pointer (some ⟨r, 0, none⟩)) := (HK1.out.cells hb HH.out 3).trans rfl
    have H1 := Lib.hid h1; have H2 := Lib.hid h2; clear h1 h2
    go_wp2_with fail
    refine (I2.out w1 HK1.out (Nat.le_trans hDW H2.out.size) H1.out).mono ?_
    rintro e w2 ⟨rfl, h3, h4⟩
    have H3 := Lib.hid h3; have H4 := Lib.hid h4; clear h3 h4
    go_wp2_with fail
    exact bodyPost_end (by simp [results, Tryd.results90, go_sem]) rfl ⟨rfl, by rw [← List.append_assoc]; exact H3.out, H2.out.trans H4.out⟩

set_option maxRecDepth 100000 in
set_option maxHeartbeats 800000 in
theorem text_any (w : World) (b : Nat) (l : List UInt8) (h : Rope w w.heap.size b l) (hl : l.length ≤ 1048576) :
    Calls Tryd.prog 55 #[.pointer (some ⟨b, 0, none⟩)] w fun e w' => e = .returned (.string ⟨l.toArray⟩) ∧ Below w.heap.size w w' := by
  have HF := Lib.hid (Lib.fresh_isBuilder 100 5 w)
  have H := Lib.hid h; clear h
  go_enter Tryd.func55, Tryd.ntmps55
  go_wp2_with fail
  refine (write_any H.out _ w.heap.size w.heap.size [] ⟨fun j hj => ((Below.refl w.heap.size w).alloc (Nat.le_refl _) _).block j hj, by rw [World.size_alloc]; omega⟩ (Nat.le_refl _) (by rw [World.size_alloc]; omega) HF.out (by simp; exact hl)).mono ?_
  rintro e w1 ⟨rfl, h1, h2⟩
  have H1 := Lib.hid h1
  have H2 : Hid (Below w.heap.size w w1) := ((Below.refl w.heap.size w).alloc (Nat.le_refl _) _).trans h2
  clear h1 h2
  go_wp2_with fail
  refine (Tryd.Builder_String_any w.heap.size w.heap.size l w1 (by have := H1.out; rwa [List.nil_append] at this) H2.out.size).mono ?_
  rintro e w2 ⟨rfl, h3⟩
  have H3 := Lib.hid (H2.out.trans h3); clear h3
  go_wp2_with fail
  go_ret
  exact ⟨rfl, H3.out⟩

end Go.Proofs.YtfdliekhlcbkcaaDoor

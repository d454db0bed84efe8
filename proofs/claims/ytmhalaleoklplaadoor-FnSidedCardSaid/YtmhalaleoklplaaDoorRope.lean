/-
  Ropes: trees of letters on the heap, never changed; joined.
-/
import Derived.Test.YtmhalaleoklplaaDoorWrdI
import Derived.StillTailTactics
namespace Go.Proofs.YtmhalaleoklplaaDoor
open Go.RowKit

/-- Block b, below B, is a rope with the letters l. -/
inductive Rope (w : World) (B : Nat) : Nat → List UInt8 → Prop
  | leaf (b : Nat) (c : UInt8) (hb : b < B) (h : w.heap[b]? = some (.cells #[.int .i64 1, .int .u8 (c.toNat : Int), .pointer none, .pointer none] 59 (0, 0))) : Rope w B b [c]
  | node (b f r n : Nat) (xs ys : List UInt8) (hb : b < B) (h : w.heap[b]? = some (.cells #[.int .i64 (n : Int), .int .u8 0, .pointer (some ⟨f, 0, none⟩), .pointer (some ⟨r, 0, none⟩)] 59 (0, 0)))
      (hn : n = xs.length + ys.length) (hf : Rope w B f xs) (hr : Rope w B r ys) (hx : xs ≠ []) (hy : ys ≠ []) : Rope w B b (xs ++ ys)
theorem Rope.kept {w w' : World} {B b : Nat} {l : List UInt8} (h : Rope w B b l) (hb : ∀ k, k < B → w'.heap[k]? = w.heap[k]?) : Rope w' B b l := by
  induction h with
  | leaf b c hl h => exact .leaf b c hl ((hb b hl).trans h)
  | node b f r n xs ys hl h hn _ _ hx hy ih1 ih2 => exact .node b f r n xs ys hl ((hb b hl).trans h) hn ih1 ih2 hx hy
theorem Rope.under {w w' : World} {B b : Nat} {l : List UInt8} (h : Rope w B b l) (hb : Below B w w') : Rope w' B b l := h.kept hb.block
theorem Rope.mono {w : World} {B B' b : Nat} {l : List UInt8} (h : Rope w B b l) (hb : B ≤ B') : Rope w B' b l := by
  induction h with
  | leaf b c hl h => exact .leaf b c (by omega) h
  | node b f r n xs ys hl h hn _ _ hx hy ih1 ih2 => exact .node b f r n xs ys (by omega) h hn ih1 ih2 hx hy
theorem Rope.drewN {w : World} {B b : Nat} {l : List UInt8} (h : Rope w B b l) (k : Nat) : Rope (w.drewN k) B b l := h.kept fun _ _ => rfl
theorem Rope.lt {w : World} {B b : Nat} {l : List UInt8} (h : Rope w B b l) : b < B := by cases h <;> assumption
theorem Rope.ne {w : World} {B b : Nat} {l : List UInt8} (h : Rope w B b l) : l ≠ [] := by
  cases h with
  | leaf => simp
  | node _ _ _ _ xs ys _ _ _ _ _ hx _ => simp [hx]
theorem Rope.size {w : World} {B b : Nat} {l : List UInt8} (h : Rope w B b l) : w.cell? ⟨b, 0, none⟩ = some (.int .i64 (l.length : Int)) := by
  cases h with
  | leaf _ c _ h => rw [cell_of_row w b 0 _ _ (0, 0) h]; rfl
  | node _ f r n xs ys _ h hn => rw [cell_of_row w b 0 _ _ (0, 0) h, List.length_append, hn]; rfl

/-- A pointer to a rope with the letters l; nil where there are none. -/
def PRope (w : World) (B : Nat) (v : Value) (l : List UInt8) : Prop := (l = [] ∧ v = .pointer none) ∨ (l ≠ [] ∧ ∃ b, v = .pointer (some ⟨b, 0, none⟩) ∧ Rope w B b l)
theorem PRope.below {w w' : World} {B : Nat} {v : Value} {l : List UInt8} (h : PRope w B v l) (hb : Below B w w') : PRope w' B v l := by
  rcases h with h | ⟨h, b, e, hr⟩
  · exact .inl h
  · exact .inr ⟨h, b, e, hr.under hb⟩
theorem PRope.mono {w : World} {B B' : Nat} {v : Value} {l : List UInt8} (h : PRope w B v l) (hb : B ≤ B') : PRope w B' v l := by
  rcases h with h | ⟨h, b, e, hr⟩
  · exact .inl h
  · exact .inr ⟨h, b, e, hr.mono hb⟩
theorem PRope.drewN {w : World} {B : Nat} {v : Value} {l : List UInt8} (h : PRope w B v l) (k : Nat) : PRope (w.drewN k) B v l := by
  rcases h with h | ⟨h, b, e, hr⟩
  · exact .inl h
  · exact .inr ⟨h, b, e, hr.drewN k⟩
theorem Rope.p {w : World} {B b : Nat} {l : List UInt8} (h : Rope w B b l) : PRope w B (.pointer (some ⟨b, 0, none⟩)) l := .inr ⟨h.ne, b, rfl, h⟩
theorem PRope.none_ (w : World) (B : Nat) : PRope w B (.pointer none) [] := .inl ⟨rfl, rfl⟩
theorem PRope.get {w : World} {B : Nat} {v : Value} {l : List UInt8} (h : PRope w B v l) (hl : l ≠ []) : ∃ b, v = .pointer (some ⟨b, 0, none⟩) ∧ Rope w B b l := by
  rcases h with h | ⟨_, h⟩
  · exact absurd h.1 hl
  · exact h
theorem PRope.nil {w : World} {B : Nat} {v : Value} (h : PRope w B v []) : v = .pointer none := by
  rcases h with h | ⟨h, _⟩
  · exact h.2
  · exact absurd rfl h

theorem leaf_any (c : UInt8) (w : World) :
    Calls Tryd.prog 32 #[.int .u8 (c.toNat : Int)] w fun e w' => ∃ b, e = .returned (.pointer (some ⟨b, 0, none⟩)) ∧ Rope w' w'.heap.size b [c] ∧ Below w.heap.size w w' := by
  go_enter Tryd.func32, Tryd.ntmps32
  go_wp2
  go_ret
  exact ⟨_, rfl, .leaf _ c (by rw [World.size_alloc]; omega) (heap_alloc_new w _), (Below.refl _ _).alloc (Nat.le_refl _) _⟩

/-- What the first k rows hold together. -/
def cat (ls : List (List UInt8)) (k : Nat) : List UInt8 := (ls.take k).flatten
theorem cat_zero (ls : List (List UInt8)) : cat ls 0 = [] := rfl
theorem cat_succ {ls : List (List UInt8)} {k : Nat} (h : k < ls.length) : cat ls (k + 1) = cat ls k ++ ls.getD k [] := by
  unfold cat
  rw [List.take_succ_eq_append_getElem h, List.flatten_append]
  simp [List.getD, h]
theorem cat_all (ls : List (List UInt8)) : cat ls ls.length = ls.flatten := by rw [cat, List.take_length]
theorem cat_len {ls : List (List UInt8)} {k : Nat} : (cat ls k).length ≤ ls.flatten.length := by
  have h : ls.flatten = cat ls k ++ (ls.drop k).flatten := by rw [cat, ← List.flatten_append, List.take_append_drop]
  rw [h, List.length_append]; omega

set_option maxRecDepth 100000 in
set_option maxHeartbeats 1600000 in
theorem joined_any (g n c : Nat) (ls : List (List UInt8)) (w : World) (hl : ls.length = n) (hn : 0 < n) (hn2 : n ≤ 1000) (ht : ls.flatten.length ≤ 1048576)
    (h : ∀ i, i < n → ∃ v, w.cell? ⟨g, i, none⟩ = some v ∧ PRope w w.heap.size v (ls.getD i [])) :
    Calls Tryd.prog 20 #[.slice (some ⟨g, 0, none⟩) n c] w fun e w' => ∃ v, e = .returned v ∧ PRope w' w'.heap.size v ls.flatten ∧ Below w.heap.size w w' := by
  have HL := Lib.hid hl; have H := Lib.hid h; have HT := Lib.hid ht; clear hl h ht
  go_enter Tryd.func20, Tryd.ntmps20
  go_wp2_with fail
  go_loopw [3, 8] (fun v kv wr => ∃ k : Nat, k ≤ n ∧ kv = .int .i64 k ∧ Hid (PRope wr wr.heap.size v (cat ls k)) ∧ Hid (Below w.heap.size w wr)) (fun _ kv _ => n - (intOf kv).toNat)
  case atStart => exact ⟨0, Nat.zero_le _, rfl, PRope.none_ _ _, Below.refl _ _⟩
  case round =>
    obtain ⟨k, hk, rfl, hv, hb⟩ := hrel
    by_cases hlt : k < n
    · obtain ⟨r, hc, hp⟩ := H.out k hlt
      have hcr := (hb.out.cell (p := ⟨g, k, none⟩) (World.block_lt_of_cell? w _ hc)).trans hc
      have HP := Lib.hid ((hp.below hb.out).mono hb.out.size)
      have hcs := cat_succ (ls := ls) (k := k) (by rw [HL.out]; exact hlt)
      obtain ⟨x, hx⟩ : ∃ x, ls.getD k [] = x := ⟨_, rfl⟩
      rw [hx] at HP hcs
      have hcl := cat_len (ls := ls) (k := k + 1)
      have HCS := Lib.hid hcs; have HCL := Lib.hid (Nat.le_trans hcl HT.out)
      clear hc hp hx hcs hcl
      by_cases he : cat ls k = []
      · have hv2 := hv.out
        rw [he] at hv2
        obtain rfl := hv2.nil
        have HE := Lib.hid he; clear hv2 he
        rcases HP.out with ⟨hx0, rfl⟩ | ⟨hx0, b2, rfl, hb2⟩
        · have HX := Lib.hid hx0; clear hx0
          go_wp2_with fail
          go_roundw
          case rel => exact ⟨k + 1, by omega, by go_num, by rw [Hid, HCS.out, HE.out, HX.out]; exact PRope.none_ _ _, hb⟩
          case measure => simp [intOf]; omega
        · have HX := Lib.hid hb2.p; clear hx0 hb2
          go_wp2_with fail
          go_roundw
          case rel => exact ⟨k + 1, by omega, by go_num, by rw [Hid, HCS.out, HE.out, List.nil_append]; exact HX.out, hb⟩
          case measure => simp [intOf]; omega
      · obtain ⟨b, rfl, hb1⟩ := hv.out.get he
        by_cases hx : x = []
        · have hp2 := HP.out
          rw [hx] at hp2
          obtain rfl := hp2.nil
          have HX := Lib.hid hx; have HE := Lib.hid he; clear hp2 hx he hb1
          go_wp2_with fail
          go_roundw
          case rel => exact ⟨k + 1, by omega, by go_num, by rw [Hid, HCS.out, HX.out, List.append_nil]; exact hv.out, hb⟩
          case measure => simp [intOf]; omega
        · obtain ⟨b2, rfl, hb2⟩ := HP.out.get hx
          have s1 := hb1.size
          have s2 := hb2.size
          have hll : (cat ls k).length + x.length ≤ 1048576 := by have := HCL.out; rwa [HCS.out, List.length_append] at this
          have HB1 := Lib.hid hb1; have HB2 := Lib.hid hb2; have HE := Lib.hid he; have HX := Lib.hid hx
          obtain ⟨p, hpp⟩ : ∃ p, (cat ls k).length = p := ⟨_, rfl⟩
          obtain ⟨q, hqq⟩ : ∃ q, x.length = q := ⟨_, rfl⟩
          rw [hpp] at s1 hll
          rw [hqq] at s2 hll
          have HPQ : Hid (p + q = (cat ls k).length + x.length) := by rw [Hid, hpp, hqq]
          clear hb1 hb2 he hx hpp hqq
          go_wp2_with fail
          go_still_tail 12, (by kernel_rfl)
          go_wp2_with fail
          go_roundw
          case rel =>
            refine ⟨k + 1, by omega, by go_num, ?_, ?_⟩
            · rw [Hid, HCS.out]
              refine Rope.p (.node _ b b2 (p + q) _ _ (by simp) ?_ HPQ.out ((HB1.out.under ?_).mono (by simp)) ((HB2.out.under ?_).mono (by simp)) HE.out HX.out)
              · rw [Int.natCast_add]; exact heap_alloc_new wr _
              · exact below_drewN ((Below.refl _ wr).alloc (Nat.le_refl _) _) 1
              · exact below_drewN ((Below.refl _ wr).alloc (Nat.le_refl _) _) 1
            · exact below_drewN (hb.out.alloc hb.out.size _) 1
          case measure => simp [intOf]; omega
    · have hkn : k = n := by omega
      have HK := Lib.hid hkn; clear hkn
      go_wp2_with fail
      go_ret
      exact ⟨_, rfl, by have := hv.out; rw [HK.out, ← HL.out, cat_all] at this; exact this, hb.out⟩

end Go.Proofs.YtmhalaleoklplaaDoor

/-
  Ropes: cut, turned back, written.
-/
import Derived.Test.YtmhalaleoklplaaDoorRopeF
namespace Go.Proofs.YtmhalaleoklplaaDoor
open Go.RowKit

/-- Below B the heap of W is that of w. -/
def Kp (B : Nat) (w W : World) : Prop := (∀ j, j < B → W.heap[j]? = w.heap[j]?) ∧ B ≤ W.heap.size
theorem Kp.cells {B b : Nat} {w W : World} {cs : Array Value} {t : TypeId} (h : Kp B w W) (hb : b < B) (hc : w.heap[b]? = some (.cells cs t (0, 0))) (j : Nat) : W.cell? ⟨b, j, none⟩ = cs[j]? :=
  cell_of_row W b j cs t (0, 0) ((h.1 b hb).trans hc)
theorem Kp.next {B : Nat} {w W W' : World} (h : Kp B w W) (hb : Below W.heap.size W W') : Kp B w W' :=
  ⟨fun j hj => (hb.block j (Nat.lt_of_lt_of_le hj h.2)).trans (h.1 j hj), Nat.le_trans h.2 hb.size⟩
theorem Kp.drew {B : Nat} {w W : World} (h : Kp B w W) : Kp B w W.drew := h
theorem Kp.rope {B b : Nat} {w W : World} {l : List UInt8} (h : Kp B w W) (hr : Rope w B b l) : Rope W W.heap.size b l := (hr.kept h.1).mono h.2
theorem Kp.size {B b : Nat} {w W : World} {l : List UInt8} (h : Kp B w W) (hr : Rope w B b l) : W.cell? ⟨b, 0, none⟩ = some (.int .i64 (l.length : Int)) := (h.rope hr).size

def CutOf (l : List UInt8) (k : Nat) (W : World) (e : Ending) (w' : World) : Prop := ∃ v1 v2, e = .returned (.tuple #[v1, v2]) ∧ PRope w' w'.heap.size v1 (l.take k) ∧ PRope w' w'.heap.size v2 (l.drop k) ∧ Below W.heap.size W w'

theorem cut_zero (b : Nat) (l : List UInt8) (W : World) (h : Rope W W.heap.size b l) :
    Calls Tryd.prog 19 #[.pointer (some ⟨b, 0, none⟩), .int .i64 ((0 : Nat) : Int)] W (CutOf l 0 W) := by
  have H := Lib.hid h; clear h
  go_enter Tryd.func19, Tryd.ntmps19
  go_wp2
  go_ret2
  exact ⟨_, _, rfl, by rw [List.take_zero]; exact PRope.none_ _ _, by rw [List.drop_zero]; exact H.out.p, Below.refl _ _⟩
theorem cut_whole (b : Nat) (l : List UInt8) (W : World) (h : Rope W W.heap.size b l) (hl : l.length ≤ 1048576) :
    Calls Tryd.prog 19 #[.pointer (some ⟨b, 0, none⟩), .int .i64 (l.length : Int)] W (CutOf l l.length W) := by
  have hc := h.size
  have hp : 0 < l.length := List.length_pos_iff.2 h.ne
  have H := Lib.hid h; clear h
  obtain ⟨n, hn⟩ : ∃ n, l.length = n := ⟨_, rfl⟩
  rw [hn] at hc hp hl
  rw [hn]
  have HN := Lib.hid hn; clear hn
  have hd : ((n : Int) == 0) = false := by simp; omega
  go_enter Tryd.func19, Tryd.ntmps19
  go_wp2
  go_ret2
  exact ⟨_, _, rfl, by rw [← HN.out, List.take_length]; exact H.out.p, by rw [← HN.out, List.drop_length]; exact PRope.none_ _ _, Below.refl _ _⟩

set_option maxRecDepth 100000 in
set_option maxHeartbeats 1600000 in
theorem cut_any {w : World} {B b : Nat} {l : List UInt8} (h : Rope w B b l) : ∀ (W : World), Kp B w W → l.length ≤ 1048576 → ∀ k, k ≤ l.length →
    Calls Tryd.prog 19 #[.pointer (some ⟨b, 0, none⟩), .int .i64 (k : Int)] W (CutOf l k W) := by
  induction h with
  | leaf b c hb h =>
    intro W hk hl k hkl
    have hr := hk.rope (.leaf b c hb h)
    by_cases h0 : k = 0
    · subst h0; exact cut_zero b _ W hr
    · have : k = ([c] : List UInt8).length := by simp at hkl ⊢; omega
      rw [this]; exact cut_whole b _ W hr hl
  | node b f r n xs ys hb h hn hf hr hx hy ih1 ih2 =>
    intro W hk hl k hkl
    have hrope := hk.rope (.node b f r n xs ys hb h hn hf hr hx hy)
    by_cases h0 : k = 0
    · subst h0; exact cut_zero b _ W hrope
    by_cases h1 : k = (xs ++ ys).length
    · subst h1; exact cut_whole b _ W hrope hl
    have c0 : W.cell? ⟨b, 0, none⟩ = some (.int .i64 (n : Int)) := (hk.cells hb h 0).trans rfl
    have c2 : W.cell? ⟨b, 2, none⟩ = some (.pointer (some ⟨f, 0, none⟩)) := (hk.cells hb h 2).trans rfl
    have c3 : W.cell? ⟨b, 3, none⟩ = some (.pointer (some ⟨r, 0, none⟩)) := (hk.cells hb h 3).trans rfl
    have cf := hk.size hf
    rw [List.length_append] at hkl h1 hl
    obtain ⟨p, hp⟩ : ∃ p, xs.length = p := ⟨_, rfl⟩
    rw [hp] at hkl h1 hl cf hn
    have hd0 : ((k : Int) == 0) = false := by simp; omega
    have hd1 : ((k : Int) == (n : Int)) = false := by simp; omega
    have HP := Lib.hid hp; have HH := Lib.hid h
    have HF := Lib.hid hf; have HR := Lib.hid hr; have HK := Lib.hid hk
    have hn2 : n ≤ 1048576 := by omega
    have HN := Lib.hid hn
    have HL := Lib.hid hl
    have htk : xs.take k ≠ [] := by
      intro e; have := congrArg List.length e; rw [List.length_take] at this; simp at this; rcases this with h | h
      · exact h0 h
      · exact hx h
    by_cases hlt : k < p
    · have I1 := Lib.hid (ih1 W hk (by omega) k (by omega))
      have HT : Hid (xs.take k ≠ []) := htk
      have HD : Hid (xs.drop k ≠ []) := by intro e; have := congrArg List.length e; rw [List.length_drop, hp] at this; simp at this; omega
      have E1 : Hid ((xs ++ ys).take k = xs.take k) := by rw [Hid, List.take_append_of_le_length (by omega)]
      have E2 : Hid ((xs ++ ys).drop k = xs.drop k ++ ys) := by rw [Hid, List.drop_append_of_le_length (by omega)]
      have E3 : Hid ((xs.drop k).length + ys.length ≤ 1048576) := by rw [Hid, List.length_drop]; omega
      clear ih1 ih2 hf hr hx hy hp h hk hrope h0 h1 hn htk hl
      go_enter Tryd.func19, Tryd.ntmps19
      go_wp2_with (first
        | (go_at_call 19; refine I1.out.mono ?_; rintro e w1 ⟨v1, v2, rfl, p1, p2, b1⟩; have HK1 := Lib.hid (HK.out.next b1); have P1 := Lib.hid p1; have P2 := Lib.hid p2; have B1 := Lib.hid b1; obtain ⟨q1, rfl, -⟩ := p1.get HT.out; obtain ⟨q2, rfl, -⟩ := p2.get HD.out; have c31 : w1.cell? ⟨b, 3, none⟩ = some (.pointer (some ⟨r, 0, none⟩)) := (HK1.out.cells hb HH.out 3).trans rfl; clear p1 p2 b1)
        | (go_at_call 20; refine (joined_two (.pointer (some ⟨q2, 0, none⟩)) (.pointer (some ⟨r, 0, none⟩)) _ _ w1 E3.out P2.out (HK1.out.rope HR.out).p).mono ?_; rintro e w2 ⟨v, rfl, p3, b2⟩; have P3 := Lib.hid p3; have B2 := Lib.hid b2; clear p3 b2))
      go_ret2
      exact ⟨_, _, rfl, by rw [E1.out]; exact (P1.out.below B2.out).mono B2.out.size, by rw [E2.out]; exact P3.out, B1.out.trans (B2.out.mono B1.out.size)⟩
    · obtain ⟨m, hm⟩ : ∃ m, m = k - p := ⟨_, rfl⟩
      have hkp : (k : Int) - (p : Int) = (m : Int) := by omega
      have hmw : IntKind.i64.wrap (m : Int) = (m : Int) := IntWalk.i64_in _ (by omega)
      have hd2 : decide ((k : Int) < (p : Int)) = false := by simp; omega
      have I2 := Lib.hid (ih2 W.drew hk.drew (by omega) m (by omega))
      have HD : Hid (ys.drop m ≠ []) := by intro e; have := congrArg List.length e; rw [List.length_drop] at this; simp at this; omega
      have E1 : Hid ((xs ++ ys).take k = xs ++ ys.take m) := by rw [Hid, List.take_append, hp, hm, List.take_of_length_le (by omega)]
      have E2 : Hid ((xs ++ ys).drop k = ys.drop m) := by rw [Hid, List.drop_append, hp, hm, List.drop_of_length_le (by omega), List.nil_append]
      have E3 : Hid (xs.length + (ys.take m).length ≤ 1048576) := by rw [Hid, List.length_take]; omega
      clear ih1 ih2 hf hr hx hy hp h hk hrope h0 h1 hn htk hl hm
      go_enter Tryd.func19, Tryd.ntmps19
      go_wp2_with fail
      go_region_with (go_at_call 19; (with_reducible refine I2.out.mono ?_); rintro e w1 ⟨v1, v2, rfl, p1, p2, b1⟩; have HK1 := Lib.hid (HK.out.drew.next b1); have P1 := Lib.hid p1; have P2 := Lib.hid p2; have B1 := Lib.hid b1; have c21 : w1.cell? ⟨b, 2, none⟩ = some (.pointer (some ⟨f, 0, none⟩)) := (HK1.out.cells hb HH.out 2).trans rfl; obtain ⟨q2, rfl, -⟩ := p2.get HD.out; clear p2 b1)
      all_goals
        rcases p1 with ⟨e0, rfl⟩ | ⟨e0, q1, rfl, -⟩
        all_goals
          have HE0 := Lib.hid e0; clear e0
          go_wp2_with (go_at_call 20; refine (joined_two (.pointer (some ⟨f, 0, none⟩)) _ _ _ w1 E3.out (HK1.out.rope HF.out).p P1.out).mono ?_; rintro e w2 ⟨v, rfl, p3, b2⟩; have P3 := Lib.hid p3; have B2 := Lib.hid b2; clear p3 b2)
          go_ret2
          exact ⟨_, _, rfl, by rw [E1.out]; exact P3.out, by rw [E2.out]; exact (P2.out.below B2.out).mono B2.out.size, (below_undrewN0 B1.out).trans (B2.out.mono B1.out.size)⟩

end Go.Proofs.YtmhalaleoklplaaDoor

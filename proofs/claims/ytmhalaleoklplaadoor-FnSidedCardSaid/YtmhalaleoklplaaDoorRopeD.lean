/-
  Ropes: turned back, written as a text.
-/
import Derived.Test.YtmhalaleoklplaaDoorRopeC
import Derived.Test.YtmhalaleoklplaaDoorBld
import Derived.Test.YtmhalaleoklplaaDoorShelf
namespace Go.Proofs.YtmhalaleoklplaaDoor
open Go.RowKit

theorem xor_oth (c : UInt8) : bits .xor .u8 (c.toNat : Int) 32 = ((oth c).toNat : Int) := by
  have h : ∀ n, n < 256 → bits .xor .u8 ((UInt8.ofNat n).toNat : Int) 32 = ((oth (UInt8.ofNat n)).toNat : Int) := by decide +kernel
  have := h c.toNat (by have := c.toNat_lt; omega)
  rwa [show UInt8.ofNat c.toNat = c from by simp] at this
theorem other_any (c : UInt8) (w : World) :
    Calls Tryd.prog 35 #[.int .u8 (c.toNat : Int)] w fun e w' => e = .returned (.int .u8 ((oth c).toNat : Int)) ∧ w = w' := by
  have E := Lib.hid (xor_oth c)
  go_enter Tryd.func35, Tryd.ntmps35
  go_wp2
  go_ret
  exact ⟨ret_intE E.out, rfl⟩

def BackOf (l : List UInt8) (W : World) (e : Ending) (w' : World) : Prop := ∃ q, e = .returned (.pointer (some ⟨q, 0, none⟩)) ∧ Rope w' w'.heap.size q (backW l) ∧ Below W.heap.size W w'

set_option maxRecDepth 100000 in
set_option maxHeartbeats 1600000 in
theorem ropeBack_any {w : World} {B b : Nat} {l : List UInt8} (h : Rope w B b l) : ∀ (W : World), Kp B w W → l.length ≤ 1048576 →
    Calls Tryd.prog 22 #[.pointer (some ⟨b, 0, none⟩)] W (BackOf l W) := by
  induction h with
  | leaf b c hb h =>
    intro W hk hl
    have c0 : W.cell? ⟨b, 0, none⟩ = some (.int .i64 1) := (hk.cells hb h 0).trans rfl
    have c1 : W.cell? ⟨b, 1, none⟩ = some (.int .u8 (c.toNat : Int)) := (hk.cells hb h 1).trans rfl
    clear hk h
    go_enter Tryd.func22, Tryd.ntmps22
    go_wp2_with (first
      | (go_at_call 35; refine (other_any _ _).mono ?_; rintro e w' ⟨rfl, rfl⟩)
      | (go_at_call 32; refine (leaf_any _ _).mono ?_; rintro e w1 ⟨q, rfl, hr, hb1⟩; have HR := Lib.hid hr; have HB := Lib.hid hb1; clear hr hb1))
    go_ret
    exact ⟨q, rfl, HR.out, HB.out⟩
  | node b f r n xs ys hb h hn hf hr hx hy ih1 ih2 =>
    intro W hk hl
    have c0 : W.cell? ⟨b, 0, none⟩ = some (.int .i64 (n : Int)) := (hk.cells hb h 0).trans rfl
    have c2 : W.cell? ⟨b, 2, none⟩ = some (.pointer (some ⟨f, 0, none⟩)) := (hk.cells hb h 2).trans rfl
    have c3 : W.cell? ⟨b, 3, none⟩ = some (.pointer (some ⟨r, 0, none⟩)) := (hk.cells hb h 3).trans rfl
    rw [List.length_append] at hl
    have hxp : 0 < xs.length := List.length_pos_iff.2 hx
    have hyp : 0 < ys.length := List.length_pos_iff.2 hy
    have hd : ((n : Int) == 1) = false := by simp; omega
    have I1 : Hid (∀ W', Kp B w W' → Calls Tryd.prog 22 #[.pointer (some ⟨f, 0, none⟩)] W' (BackOf xs W')) := fun W' k => ih1 W' k (by omega)
    have I2 : Hid (∀ W', Kp B w W' → Calls Tryd.prog 22 #[.pointer (some ⟨r, 0, none⟩)] W' (BackOf ys W')) := fun W' k => ih2 W' k (by omega)
    have HK := Lib.hid hk; have HH := Lib.hid h
    have HLEN : Hid ((backW ys).length + (backW xs).length ≤ 1048576) := by rw [Hid, backW_len, backW_len]; omega
    clear ih1 ih2 hf hr hx hy h hk hn hl hxp hyp
    go_enter Tryd.func22, Tryd.ntmps22
    go_wp2_with fail
    go_region_with (first
      | (go_at_call 22; (first | (with_reducible refine (I1.out _ HK.out.drew).mono ?_) | (with_reducible refine (I1.out _ HKB.out).mono ?_)); rintro e wa ⟨q1, rfl, hr1, hb1⟩; have HKA := Lib.hid (Kp.next (by first | exact HK.out.drew | exact HKB.out) hb1 : Kp B w wa); have HR1 := Lib.hid hr1; have HB1 := Lib.hid hb1; have c3a : wa.cell? ⟨b, 3, none⟩ = some (.pointer (some ⟨r, 0, none⟩)) := (HKA.out.cells hb HH.out 3).trans rfl; clear hr1 hb1)
      | (go_at_call 22; (first | (with_reducible refine (I2.out _ HK.out.drew).mono ?_) | (with_reducible refine (I2.out _ HKA.out).mono ?_)); rintro e wb ⟨q2, rfl, hr2, hb2⟩; have HKB := Lib.hid (Kp.next (by first | exact HK.out.drew | exact HKA.out) hb2 : Kp B w wb); have HR2 := Lib.hid hr2; have HB2 := Lib.hid hb2; have c2b : wb.cell? ⟨b, 2, none⟩ = some (.pointer (some ⟨f, 0, none⟩)) := (HKB.out.cells hb HH.out 2).trans rfl; clear hr2 hb2)
      | (go_at_call 20; (first
          | refine (joined_two (.pointer (some ⟨q2, 0, none⟩)) (.pointer (some ⟨q1, 0, none⟩)) _ _ wa HLEN.out ((HR2.out.under HB1.out).mono HB1.out.size).p HR1.out.p).mono ?_
          | refine (joined_two (.pointer (some ⟨q2, 0, none⟩)) (.pointer (some ⟨q1, 0, none⟩)) _ _ wb HLEN.out HR2.out.p ((HR1.out.under HB2.out).mono HB2.out.size).p).mono ?_); rintro e wc ⟨v, rfl, hp, hbc⟩; have HP := Lib.hid hp; have HBC := Lib.hid hbc; clear hp hbc))
    all_goals
      go_wp2_with fail
      go_ret
      have hp := HP.out
      rw [← backW_append] at hp
      obtain ⟨q, rfl, hr⟩ := hp.get (fun e => by
        have h1 := congrArg List.length e
        have h2 := HR1.out.ne
        rw [backW_append, List.length_append] at h1
        have : (backW xs).length ≠ 0 := fun e => h2 (List.eq_nil_of_length_eq_zero e)
        rw [List.length_nil] at h1; omega)
      refine ⟨q, rfl, hr, ?_⟩
      first
        | exact (below_undrewN0 HB1.out).trans ((HB2.out.mono HB1.out.size).trans (HBC.out.mono (Nat.le_trans HB1.out.size HB2.out.size)))
        | exact (below_undrewN0 HB2.out).trans ((HB1.out.mono HB2.out.size).trans (HBC.out.mono (Nat.le_trans HB2.out.size HB1.out.size)))

def WroteOf (D bb : Nat) (l m : List UInt8) (W : World) (e : Ending) (w' : World) : Prop := e = .returned (.tuple #[]) ∧ BldN w' D bb (m ++ l) ∧ Below D W w'

set_option maxRecDepth 100000 in
set_option maxHeartbeats 1600000 in
theorem write_any {w : World} {B b : Nat} {l : List UInt8} (h : Rope w B b l) : ∀ (W : World) (D bb : Nat) (m : List UInt8), Kp B w W → B ≤ D → D ≤ W.heap.size → BldN W D bb m → m.length + l.length ≤ 1048576 →
    Calls Tryd.prog 33 #[.pointer (some ⟨b, 0, none⟩), .pointer (some ⟨bb, 0, none⟩)] W (WroteOf D bb l m W) := by
  induction h with
  | leaf b c hb h =>
    intro W D bb m hk hBD hDW hbl hl
    have c0 : W.cell? ⟨b, 0, none⟩ = some (.int .i64 1) := (hk.cells hb h 0).trans rfl
    have c1 : W.cell? ⟨b, 1, none⟩ = some (.int .u8 (c.toNat : Int)) := (hk.cells hb h 1).trans rfl
    have HC := Lib.hid (writeByte_any D bb m c W hbl (by omega) hDW)
    clear hk h hbl
    go_enter Tryd.func33, Tryd.ntmps33
    go_wp2_with (go_at_call 42; refine HC.out.mono ?_; rintro e w1 ⟨rfl, h1, h2⟩; have H1 := Lib.hid h1; have H2 := Lib.hid h2; clear h1 h2)
    exact bodyPost_ret (v := .tuple #[]) (by simp [results, Tryd.results33, go_sem]) rfl ⟨rfl, H1.out, H2.out⟩
  | node b f r n xs ys hb h hn hf hr hx hy ih1 ih2 =>
    intro W D bb m hk hBD hDW hbl hl
    have c0 : W.cell? ⟨b, 0, none⟩ = some (.int .i64 (n : Int)) := (hk.cells hb h 0).trans rfl
    have c2 : W.cell? ⟨b, 2, none⟩ = some (.pointer (some ⟨f, 0, none⟩)) := (hk.cells hb h 2).trans rfl
    rw [List.length_append] at hl
    have hxp : 0 < xs.length := List.length_pos_iff.2 hx
    have hyp : 0 < ys.length := List.length_pos_iff.2 hy
    have hd : ((n : Int) == 1) = false := by simp; omega
    have I1 := Lib.hid (ih1 W D bb m hk hBD hDW hbl (by omega))
    have I2 := Lib.hid (fun W' k h1 h2 => ih2 W' D bb (m ++ xs) k hBD h1 h2 (by rw [List.length_append]; omega))
    have HK := Lib.hid hk; have HH := Lib.hid h
    clear ih1 ih2 hf hr hx hy h hk hn hl hxp hyp hbl
    go_enter Tryd.func33, Tryd.ntmps33
    go_wp2_with fail
    refine I1.out.mono ?_
    rintro e w1 ⟨rfl, h1, h2⟩
    have HK1 : Hid (Kp B w w1) := ⟨fun j hj => (h2.block j (by omega)).trans (HK.out.1 j hj), Nat.le_trans HK.out.2 h2.size⟩
    have c3 : w1.cell? ⟨b, 3, none⟩ = some (.pointer (some ⟨r, 0, none⟩)) := (HK1.out.cells hb HH.out 3).trans rfl
    have H1 := Lib.hid h1; have H2 := Lib.hid h2; clear h1 h2
    go_wp2_with fail
    refine (I2.out w1 HK1.out (Nat.le_trans hDW H2.out.size) H1.out).mono ?_
    rintro e w2 ⟨rfl, h3, h4⟩
    have H3 := Lib.hid h3; have H4 := Lib.hid h4; clear h3 h4
    go_wp2_with fail
    exact bodyPost_end (by simp [results, Tryd.results33, go_sem]) rfl ⟨rfl, by rw [← List.append_assoc]; exact H3.out, H2.out.trans H4.out⟩

set_option maxRecDepth 100000 in
set_option maxHeartbeats 800000 in
theorem text_any (w : World) (b : Nat) (l : List UInt8) (h : Rope w w.heap.size b l) (hl : l.length ≤ 1048576) :
    Calls Tryd.prog 21 #[.pointer (some ⟨b, 0, none⟩)] w fun e w' => e = .returned (.string ⟨l.toArray⟩) ∧ Below w.heap.size w w' := by
  have HF := Lib.hid (Lib.fresh_isBuilder 63 5 w)
  have H := Lib.hid h; clear h
  go_enter Tryd.func21, Tryd.ntmps21
  go_wp2_with fail
  refine (write_any H.out _ w.heap.size w.heap.size [] ⟨fun j hj => ((Below.refl w.heap.size w).alloc (Nat.le_refl _) _).block j hj, by rw [World.size_alloc]; omega⟩ (Nat.le_refl _) (by rw [World.size_alloc]; omega) HF.out (by simp; exact hl)).mono ?_
  rintro e w1 ⟨rfl, h1, h2⟩
  have H1 := Lib.hid h1
  have H2 : Hid (Below w.heap.size w w1) := ((Below.refl w.heap.size w).alloc (Nat.le_refl _) _).trans h2
  clear h1 h2
  go_wp2_with fail
  refine (Tryd.Builder_String_any w.heap.size w.heap.size l w1 (by have := H1.out; rwa [List.nil_append] at this) H2.out.size).mono ?_
  rintro e w2 ⟨rfl, h3⟩
  have H3 := Lib.hid (H2.out.trans h3); clear h3
  go_wp2_with fail
  go_ret
  exact ⟨rfl, H3.out⟩

end Go.Proofs.YtmhalaleoklplaaDoor

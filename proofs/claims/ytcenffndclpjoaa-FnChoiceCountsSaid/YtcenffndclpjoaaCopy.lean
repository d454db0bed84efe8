/-
  MapValid's contracts in the form that the laws ask.
  MapFaces: the model's and the program's.
  A copy of a slice of ints: the model's and the library's.
-/
import Derived.Test.YtcenffndclpjoaaSpecMap
import Derived.Lib.BufferMore
namespace Go.Proofs.Ytcenffndclpjoaa
open Go.RowKit

theorem spec_mapV (w : World) (A A' : Option Addr) (n n' c c' : Nat) (t f : List Int) (h : Rd w A n t) (h' : Rd w A' n' f) (hn : n ≤ 1048576) (hn' : n' ≤ 1048576) {r : Bool} (hR : mapV t f = r) :
    Calls Try.prog 40 #[.agg #[.slice A n c, .slice A' n' c']] w fun e w' => e = .returned (.bool r) ∧ Below w.heap.size w w' := by
  subst hR; exact specMap_any A A' n n' c c' t f w h h' (by omega) (by omega)
end Go.Proofs.Ytcenffndclpjoaa

namespace Go.Proofs.Ytcenffndclpjoaa
open Go.RowKit

theorem Vld.mulL {a b : List Int} (ha : Vld a) (hb : Vld b) (hl : a.length = b.length) : Vld (mulL a b) := by
  have hlen := mulL_len a b
  refine ⟨by rw [hlen]; exact ha.1, by rw [hlen]; exact ha.2.1, fun j hj => ?_, fun j hj i hij e => ?_⟩
  · rw [hlen] at hj ⊢
    rw [gi_mulL hj, hl]
    exact hb.2.2.1 _ (by rw [← hl]; exact ha.gn_lt hj)
  · rw [hlen] at hj
    rw [gi_mulL hj, gi_mulL (by omega)] at e
    have h1 := ha.gn_lt hj
    have h2 := ha.gn_lt (show i < a.length by omega)
    have h3 := hb.inj (i := gn a i) (j := gn a j) (by omega) (by omega) (by unfold gn; exact congrArg Int.toNat e)
    have := ha.inj (by omega) hj h3
    omega

theorem faces_at (b : Nat) (A A' : Option Addr) (n c c' : Nat) (t f : List Int) (w : World) (hb : MapAt w b A n c A' n c') (h : Rd w A n t) (h' : Rd w A' n f) (hf : Vld f) :
    Calls Try.prog 68 #[.pointer (some ⟨b, 0, none⟩)] w fun e w' => ∃ v, e = .returned v ∧ Own w' w.heap.size v (mulL f t) ∧ Below w.heap.size w w' := by
  have hn : n ≤ 12 := by rw [← h'.1]; exact hf.2.1
  have c0 := hb.cell0
  have c1 := hb.cell1
  have HX := Lib.hid hb; have H := Lib.hid h; have H' := Lib.hid h'; have HF := Lib.hid hf; clear hb h h' hf
  go_enter Try.func68, Try.ntmps68
  go_wp2_with fail
  go_region_held3 (fun w' => w'.cell? ⟨b, 0, none⟩ = some (.slice A n c) ∧ w'.cell? ⟨b, 1, none⟩ = some (.slice A' n c')) (first | go_keep | exact ⟨(HX.out.below BL.out).cell0, (HX.out.below BL.out).cell1⟩) (first
    | (go_at_call 60; refine (then_any A' A n n c' c f t _ (H'.out.drewN _) (H.out.drewN _) (by omega) (by omega) (HF.out.into H'.out.1)).mono ?_; rintro e w1 ⟨v, rfl, o, bl⟩; have HO := Lib.hid o; have BL := Lib.hid (Below.of_drewN bl); clear o bl))
  go_wp2
  go_ret
  exact ⟨v, rfl, HO.out, BL.out⟩
theorem faces_any (b : Nat) (A A' : Option Addr) (n c c' : Nat) (t f : List Int) (w : World) (hb : Box2 w b A n c A' n c') (h : Rd w A n t) (h' : Rd w A' n f) (hf : Vld f) :
    Calls Try.prog 68 #[.pointer (some ⟨b, 0, none⟩)] w fun e w' => ∃ v, e = .returned v ∧ Own w' w.heap.size v (mulL f t) ∧ Below w.heap.size w w' :=
  faces_at b A A' n c c' t f w hb.at_ h h' hf

noncomputable def facesR (t f : List Int) : Bool × List Int := if mapV t f = true then (true, mulL f t) else (false, [])
theorem facesR_len {t f ys : List Int} {ok : Bool} (h : facesR t f = (ok, ys)) : ys.length ≤ 12 := by
  unfold facesR at h
  split at h
  · rename_i hb
    injection h with _ h; rw [← h, mulL_len]; exact (mapV_iff.1 hb).flip.2.1
  · injection h with _ h; rw [← h]; simp
theorem IsMap.same {t f : List Int} (h : IsMap t f) {n n' : Nat} (h1 : t.length = n) (h2 : f.length = n') : n = n' := by rw [← h1, ← h2]; exact h.len

theorem valid_lit {v : Bool} (b : Nat) (A A' : Option Addr) (n n' c c' : Nat) (t f : List Int) (w : World) (hb : Box2 w b A n c A' n' c') (h : Rd w A n t) (h' : Rd w A' n' f) (hn : n ≤ 1048576) (hn' : n' ≤ 1048576) (hv : mapV t f = v) :
    Calls Try.prog 34 #[.pointer (some ⟨b, 0, none⟩)] w fun e w' => e = .returned (.bool v) ∧ Below w.heap.size w w' := by
  subst hv
  exact valid_any b A A' n n' c c' t f w hb h h' (by omega) (by omega)

end Go.Proofs.Ytcenffndclpjoaa

namespace Go.Proofs.Ytcenffndclpjoaa
open Go.RowKit

/-- Two boxes that a call makes one after the other. -/
theorem two_boxes (w : World) (t t' : TypeId) (u u' v v' : Value) :
    ∃ W, (w.alloc (.cells #[u, u'] t)).alloc (.cells #[v, v'] t') = W ∧ Box W w.heap.size t u u' ∧ Box W (w.heap.size + 1) t' v v' ∧ Below w.heap.size w W ∧ W.heap.size = w.heap.size + 2 := by
  refine ⟨_, rfl, (Box.new w t u u').below ((Below.refl _ _).alloc (Nat.le_refl _) _), ?_, ((Below.refl _ _).alloc (Nat.le_refl _) _).alloc (by simp) _, by simp⟩
  have := Box.new (w.alloc (.cells #[u, u'] t)) t' v v'
  rwa [World.size_alloc] at this

end Go.Proofs.Ytcenffndclpjoaa

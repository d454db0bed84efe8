/-
  MapValid's contracts in the form that the laws ask.
  MapFaces: the model's and the program's.
  A copy of a slice of ints: the model's and the library's.
-/
import Derived.Test.YtbbidlgdldofdaaSpecMap
import Derived.Lib.BufferMore
namespace Go.Proofs.Ytbbidlgdldofdaa
open Go.RowKit

theorem spec_mapV (w : World) (A A' : Option Addr) (n n' c c' : Nat) (t f : List Int) (h : Rd w A n t) (h' : Rd w A' n' f) (hn : n ≤ 1048576) (hn' : n' ≤ 1048576) {r : Bool} (hR : mapV t f = r) :
    Calls Try.prog 16 #[.agg #[.slice A n c, .slice A' n' c']] w fun e w' => e = .returned (.bool r) ∧ Below w.heap.size w w' := by
  subst hR; exact specMap_any A A' n n' c c' t f w h h' (by omega) (by omega)
end Go.Proofs.Ytbbidlgdldofdaa

namespace Go.Proofs.Ytbbidlgdldofdaa
open Go.RowKit

theorem Vld.mulL {a b : List Int} (ha : Vld a) (hb : Vld b) (hl : a.length = b.length) : Vld (mulL a b) := by
  have hlen := mulL_len a b
  refine ⟨by rw [hlen]; exact ha.1, by rw [hlen]; exact ha.2.1, fun j hj => ?_, fun j hj i hij e => ?_⟩
  · rw [hlen] at hj ⊢
    rw [gi_mulL hj, hl]
    exact hb.2.2.1 _ (by rw [← hl]; exact ha.gn_lt hj)
  · rw [hlen] at hj
    rw [gi_mulL hj, gi_mulL (by omega)] at e
    have h1 := ha.gn_lt hj
    have h2 := ha.gn_lt (show i < a.length by omega)
    have h3 := hb.inj (i := gn a i) (j := gn a j) (by omega) (by omega) (by unfold gn; exact congrArg Int.toNat e)
    have := ha.inj (by omega) hj h3
    omega

theorem faces_any (b : Nat) (A A' : Option Addr) (n c c' : Nat) (t f : List Int) (w : World) (hb : Box2 w b A n c A' n c') (h : Rd w A n t) (h' : Rd w A' n f) (hf : Vld f) :
    Calls Try.prog 19 #[.pointer (some ⟨b, 0, none⟩)] w fun e w' => ∃ v, e = .returned v ∧ Own w' w.heap.size v (mulL f t) ∧ Below w.heap.size w w' := by
  have hn : n ≤ 12 := by rw [← h'.1]; exact hf.2.1
  have c0 := hb.cell0
  have c1 := hb.cell1
  have HX := Lib.hid hb; have H := Lib.hid h; have H' := Lib.hid h'; have HF := Lib.hid hf; clear hb h h' hf
  go_enter Try.func19, Try.ntmps19
  go_wp2_with fail
  go_region_held3 (fun w' => w'.cell? ⟨b, 0, none⟩ = some (.slice A n c) ∧ w'.cell? ⟨b, 1, none⟩ = some (.slice A' n c')) (first | go_keep | exact ⟨(HX.out.below BL.out).cell0, (HX.out.below BL.out).cell1⟩) (first
    | (go_at_call 36; refine (then_any A' A n n c' c f t _ (H'.out.drewN _) (H.out.drewN _) (by omega) (by omega) (HF.out.into H'.out.1)).mono ?_; rintro e w1 ⟨v, rfl, o, bl⟩; have HO := Lib.hid o; have BL := Lib.hid (Below.of_drewN bl); clear o bl))
  go_wp2
  go_ret
  exact ⟨v, rfl, HO.out, BL.out⟩

noncomputable def facesR (t f : List Int) : Bool × List Int := if mapV t f = true then (true, mulL f t) else (false, [])
theorem facesR_len {t f ys : List Int} {ok : Bool} (h : facesR t f = (ok, ys)) : ys.length ≤ 12 := by
  unfold facesR at h
  split at h
  · rename_i hb
    injection h with _ h; rw [← h, mulL_len]; exact (mapV_iff.1 hb).flip.2.1
  · injection h with _ h; rw [← h]; simp
theorem IsMap.same {t f : List Int} (h : IsMap t f) {n n' : Nat} (h1 : t.length = n) (h2 : f.length = n') : n = n' := by rw [← h1, ← h2]; exact h.len

theorem valid_lit {v : Bool} (b : Nat) (A A' : Option Addr) (n n' c c' : Nat) (t f : List Int) (w : World) (hb : Box2 w b A n c A' n' c') (h : Rd w A n t) (h' : Rd w A' n' f) (hn : n ≤ 1048576) (hn' : n' ≤ 1048576) (hv : mapV t f = v) :
    Calls Try.prog 13 #[.pointer (some ⟨b, 0, none⟩)] w fun e w' => e = .returned (.bool v) ∧ Below w.heap.size w w' := by
  subst hv
  exact valid_any b A A' n n' c c' t f w hb h h' (by omega) (by omega)

end Go.Proofs.Ytbbidlgdldofdaa

namespace Go.Proofs.Ytbbidlgdldofdaa
open Go.RowKit

theorem Rd.news {w : World} {ad : Addr} {n : Nat} {xs : List Int} (h : Rd w (some ad) n xs) : ∀ j u, (ints xs)[j]? = some u → w.cell? (ad.add j) = some u := by
  intro j u hj
  have hl : j < xs.length := by have := (List.getElem?_eq_some_iff.1 hj).1; rwa [ints_len] at this
  rw [ints_get hl] at hj
  obtain ⟨ad', e, hc⟩ := h.at_ (k := j) (by rw [← h.1]; exact hl)
  injection e with e
  subst e
  rw [hc]; exact hj
theorem ints_one {xs : List Int} : ∀ u ∈ ints xs, u.oneCell' = true := by
  intro u hu
  simp [ints] at hu
  obtain ⟨x, _, rfl⟩ := hu
  rfl
set_option maxRecDepth 100000 in
set_option maxHeartbeats 800000 in
theorem clone_any (A : Option Addr) (n c : Nat) (xs : List Int) (w : World) (h : Rd w A n xs) (h1 : 1 ≤ n) (hn : n ≤ 1048576) :
    Calls Try.prog 20 #[.slice A n c] w fun e w' => ∃ v, e = .returned v ∧ Own w' w.heap.size v xs ∧ Below w.heap.size w w' := by
  obtain ⟨i0, hinf, hz0, hz1, hz2⟩ := info_parts info_int
  obtain ⟨ad, rfl, -⟩ := h.at_ (k := 0) (by omega)
  have hb0 : Below w.heap.size w (w.alloc (.cells #[] 3)) := (Below.refl _ _).alloc (Nat.le_refl _) _
  have HNW := Lib.hid (h.below hb0).news
  have HLN : Hid ((ints xs).length = n * 1) := by rw [Hid, ints_len, h.1, Nat.mul_one]
  have HE : Hid (Own (w.alloc (.cells #[] 3)) w.heap.size (.slice (some ⟨w.heap.size, 0, none⟩) 0 0) []) := Own.empty (Nat.le_refl _)
  have HB0 := Lib.hid hb0; have Hx := Lib.hid h.1; clear hb0 h
  have hq := Lib.run_eql_slice_some_nil w ad n c Try.underlying23
  go_enter Try.func20, Try.ntmps20
  go_wp2_with (at_builtin; refine wpList_append_own _ rfl _ _ 23 rfl w.heap.size 3 i0 (.int .i64 0) 1 8 Try.underlying23 hinf hz0 hz1 hz2 rfl (by decide) _ 0 [] rfl HE.out ad n c (ints xs) rfl HLN.out HNW.out ints_one (by unfold maxLen; omega) (by omega) (by simp) ?_; intro v1 w1 hown1 hgrow1 _; have HO := Lib.hid hown1; have HG := Lib.hid hgrow1; clear hown1 hgrow1)
  go_ret
  refine ⟨_, rfl, ?_, HB0.out.grown HG.out (by simp) (fun k hk => (HE.out.lt k hk).1)⟩
  have := HO.out
  unfold Own
  rw [Hx.out]
  simpa using this

/-- Two boxes that a call makes one after the other. -/
theorem two_boxes (w : World) (t t' : TypeId) (u u' v v' : Value) :
    ∃ W, (w.alloc (.cells #[u, u'] t)).alloc (.cells #[v, v'] t') = W ∧ Box W w.heap.size t u u' ∧ Box W (w.heap.size + 1) t' v v' ∧ Below w.heap.size w W ∧ W.heap.size = w.heap.size + 2 := by
  refine ⟨_, rfl, (Box.new w t u u').below ((Below.refl _ _).alloc (Nat.le_refl _) _), ?_, ((Below.refl _ _).alloc (Nat.le_refl _) _).alloc (by simp) _, by simp⟩
  have := Box.new (w.alloc (.cells #[u, u'] t)) t' v v'
  rwa [World.size_alloc] at this

end Go.Proofs.Ytbbidlgdldofdaa

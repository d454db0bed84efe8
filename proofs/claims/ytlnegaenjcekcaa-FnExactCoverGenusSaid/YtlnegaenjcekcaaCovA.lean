/-
  One row appended to a slice of slices that a call owns: what is known behind it.
  Words on memory for voltages: a row of permutations that a call made, the block of a voltage; small functions of the program.
-/
import Derived.Test.YtlnegaenjcekcaaAppI
import Derived.Test.YtlnegaenjcekcaaMarkSS
import Derived.Test.YtlnegaenjcekcaaCov
namespace Go.Proofs.Ytlnegaenjcekcaa
open Go.RowKit

/-- What OwnSS says, its values by name. -/
def Opn (w : World) (lo hi : Nat) (v : Value) (xss : List (List Int)) (vs : List Value) : Prop :=
  vs.length = xss.length ∧ w.ownsRow lo 22 1 v xss.length vs ∧ (∀ j, j < xss.length → Own w lo (vs.getD j undef) (xss.getD j []) ∧ ∀ k, (vs.getD j undef).ownBlock = some k → k < hi) ∧
    ∀ j, j < xss.length → ∀ i, i < j → (vs.getD i undef).ownBlock = none ∨ (vs.getD i undef).ownBlock ≠ (vs.getD j undef).ownBlock
theorem OwnSS.opn {w : World} {lo hi : Nat} {v : Value} {xss : List (List Int)} (h : OwnSS w lo hi v xss) : ∃ vs, Opn w lo hi v xss vs := h
theorem Opn.row {w : World} {lo hi L : Nat} {v : Value} {xss : List (List Int)} {vs : List Value} (h : Opn w lo hi v xss vs) (hL : xss.length = L) : w.ownsRow lo 22 1 v L vs := hL ▸ h.2.1
theorem Opn.below {w w' : World} {lo hi : Nat} {v : Value} {xss : List (List Int)} {vs : List Value} (h : Opn w lo hi v xss vs) (hb : Below w.heap.size w w') : Opn w' lo hi v xss vs := by
  obtain ⟨hl, ho, hr, hd⟩ := h
  exact ⟨hl, World.ownsRow.kept ho (row := none) ⟨hb.os, hb.tape, hb.output, hb.size, fun k hk _ => hb.block k hk⟩ (by cases v.ownBlock <;> simp), fun j hj => ⟨(hr j hj).1.below hb, (hr j hj).2⟩, hd⟩
theorem app_row {wr w1 w2 : World} {lo L : Nat} {v u v1 : Value} {xss : List (List Int)} {xs : List Int} {vs : List Value} (hlo : lo ≤ wr.heap.size) (hL : xss.length = L) (h : Opn w1 lo wr.heap.size v xss vs) (hb : Below wr.heap.size wr w1)
    (hu : Own w1 wr.heap.size u xs) (hown : w2.ownsRow lo 22 1 v1 (L + 1) (vs ++ [u])) (hg : (w1.alloc (.cells #[u] 22)).grownBy w2 v.ownBlock) : OwnSS w2 lo w2.heap.size v1 (xss ++ [xs]) ∧ Below lo wr w2 := by
  subst hL
  have hba : Below w1.heap.size w1 (w1.alloc (.cells #[u] 22)) := (Below.refl _ _).alloc (Nat.le_refl _) _
  have hsz := hg.size
  have hbs := hb.size
  rw [World.size_alloc] at hsz
  obtain ⟨hl, ho, hr, hd⟩ := h
  refine ⟨OwnSS.snoc (hi := wr.heap.size) hl (fun j hj => ⟨(hr j hj).1.below hba, (hr j hj).2⟩) hd (ho.alloc _) ((hu.below hba).mono hlo) (fun k hk => (hu.lt k hk).1) (by omega) (fun k hk => by have := (hu.lt k hk).2; omega) hown hg, ?_⟩
  exact ((hb.mono hlo).alloc (by omega) _).grown hg (by simp; omega) (fun k hk => (ho.lt k hk).1)

end Go.Proofs.Ytlnegaenjcekcaa

namespace Go.Proofs.Ytlnegaenjcekcaa
open Go.RowKit

theorem info_perm : (Try.prog.info? 72).map (fun i => (i.zero, i.size, i.bytes)) = some (some (.slice none 0 0), 1, 24) := by kernel_rfl

/-- A row of permutations at block g: those that F tells read so; they lie in other blocks. -/
def Alg (w : World) (lo g n c : Nat) (F : Nat → Option (List Int)) : Prop :=
  ∃ vs : List Value, vs.length = n ∧ w.ownsRow lo 72 1 (.slice (some ⟨g, 0, none⟩) n c) n vs ∧
    ∀ j, j < n → ∀ p, F j = some p → ∃ Aj cj, vs.getD j undef = .slice Aj p.length cj ∧ Rd w Aj p.length p ∧ ∀ ad : Addr, Aj = some ad → ad.block ≠ g
section
variable {w w' : World} {lo g n c : Nat} {F G : Nat → Option (List Int)}
theorem Alg.below (h : Alg w lo g n c F) (hb : Below w.heap.size w w') : Alg w' lo g n c F := by
  obtain ⟨vs, hl, ho, hr⟩ := h
  refine ⟨vs, hl, World.ownsRow.kept ho (row := none) ⟨hb.os, hb.tape, hb.output, hb.size, fun k hk _ => hb.block k hk⟩ (by simp [Value.ownBlock]), fun j hj p hp => ?_⟩
  obtain ⟨Aj, cj, h1, h2, h3⟩ := hr j hj p hp
  exact ⟨Aj, cj, h1, h2.below hb, h3⟩
theorem Alg.drewN (h : Alg w lo g n c F) (k : Nat) : Alg (w.drewN k) lo g n c F := h
theorem Alg.congr (h : Alg w lo g n c F) (he : ∀ j, j < n → F j = G j) : Alg w lo g n c G := by
  obtain ⟨vs, hl, ho, hr⟩ := h
  exact ⟨vs, hl, ho, fun j hj p hp => hr j hj p (by rw [he j hj]; exact hp)⟩
theorem Alg.mono {lo' : Nat} (h : Alg w lo g n c F) (hl : lo' ≤ lo) : Alg w lo' g n c F := by
  obtain ⟨vs, h0, ⟨h1, h2⟩, hr⟩ := h
  refine ⟨vs, h0, ⟨h1, ?_⟩, hr⟩
  rcases h2 with h2 | ⟨g', cap, cur, hv, hg, r⟩
  · exact .inl h2
  · exact .inr ⟨g', cap, cur, hv, by omega, r⟩
theorem Alg.lt (h : Alg w lo g n c F) : lo ≤ g ∧ g < w.heap.size := by
  obtain ⟨vs, hl, ho, hr⟩ := h
  exact ho.lt g rfl
theorem Alg.cell (h : Alg w lo g n c F) {j : Nat} (hj : j < n) : ∃ v, w.cell? ⟨g, j, none⟩ = some v ∧ w.frozen? ⟨g, j, none⟩ = false := by
  obtain ⟨vs, hl, ho, hr⟩ := h
  refine ⟨vs.getD j undef, ?_, World.ownsRow.frozenAt ho j⟩
  rw [World.ownsRow.cellAt ho j (by omega)]
  simp [List.getD, List.getElem?_eq_getElem (show j < vs.length by omega)]
theorem Alg.at_ (h : Alg w lo g n c F) {j k : Nat} {p : List Int} (hj : j < n) (hp : F j = some p) (hk : p.length = k) :
    ∃ Aj cj, w.cell? ⟨g, j, none⟩ = some (.slice Aj k cj) ∧ Rd w Aj k p := by
  obtain ⟨vs, hl, ho, hr⟩ := h
  obtain ⟨Aj, cj, h1, h2, h3⟩ := hr j hj p hp
  subst hk
  refine ⟨Aj, cj, ?_, h2⟩
  rw [World.ownsRow.cellAt ho j (by omega), ← h1]
  simp [List.getD, List.getElem?_eq_getElem (show j < vs.length by omega)]
theorem Alg.put (h : Alg w lo g n c F) {j k : Nat} {p : List Int} {Ak : Option Addr} {ck : Nat} (hj : j < n) (hk : p.length = k) (hr : Rd w Ak k p) (hne : ∀ ad : Addr, Ak = some ad → ad.block ≠ g) :
    Alg (w.setCell ⟨g, j, none⟩ (.slice Ak k ck)) lo g n c (fun i => if i = j then some p else F i) ∧ w.grownBy (w.setCell ⟨g, j, none⟩ (.slice Ak k ck)) (some g) := by
  subst hk
  obtain ⟨vs, hl, ho, hall⟩ := h
  have hs := World.ownsRow.stored ho j (.slice Ak p.length ck)
  refine ⟨⟨vs.set j (.slice Ak p.length ck), by simp [hl], hs.1, fun i hi q hq => ?_⟩, hs.2⟩
  by_cases e : i = j
  · subst e
    simp only [if_true] at hq
    injection hq with hq
    subst hq
    exact ⟨Ak, ck, by simp [List.getD, hl, hi], hr.kept_ hs.2 (fun ad e e' => hne ad e (by injection e' with e'; exact e'.symm)), hne⟩
  · simp only [if_neg e] at hq
    obtain ⟨Ai, ci, h1, h2, h3⟩ := hall i hi q hq
    exact ⟨Ai, ci, by rw [← h1]; simp [List.getD, Ne.symm e], h2.kept_ hs.2 (fun ad e e' => h3 ad e (by injection e' with e'; exact e'.symm)), h3⟩
theorem Alg.made {vs : List Value} (h : w.ownsRow lo 72 1 (.slice (some ⟨g, 0, none⟩) n c) n vs) (hl : vs.length = n) : Alg w lo g n c (fun _ => none) :=
  ⟨vs, hl, h, fun j hj p hp => by cases hp⟩
theorem Alg.rd {xss : List (List Int)} (h : Alg w lo g n c F) (hx : xss.length = n) (he : ∀ j, j < n → F j = some (xss.getD j [])) (hm : ∀ j, j < n → (xss.getD j []).length ≤ maxLen) : RdSS w (some ⟨g, 0, none⟩) n xss := by
  refine ⟨hx, fun hp => ⟨_, rfl, fun j hj => ?_⟩⟩
  obtain ⟨Aj, cj, h1, h2⟩ := h.at_ hj (he j hj) rfl
  exact ⟨Aj, cj, by rw [show (⟨g, 0, none⟩ : Addr).add j = ⟨g, j, none⟩ from by unfold Addr.add; split <;> simp_all]; exact h1, h2, hm j hj⟩
end

/-- Block b holds a voltage: the map's two lists, the sheets, the row of permutations at block g. -/
def VBox (w : World) (b : Nat) (A : Option Addr) (n c : Nat) (A' : Option Addr) (n' c' k g cg : Nat) : Prop :=
  w.heap[b]? = some (.cells #[.slice A n c, .slice A' n' c', .int .i64 k, .slice (some ⟨g, 0, none⟩) n' cg] 101 (0, 0))
section
variable {w w' : World} {b n c n' c' k g cg : Nat} {A A' : Option Addr}
theorem VBox.at_ (h : VBox w b A n c A' n' c' k g cg) : MapAt w b A n c A' n' c' := ⟨_, _, h, rfl, rfl⟩
theorem VBox.cell2 (h : VBox w b A n c A' n' c' k g cg) : w.cell? ⟨b, 2, none⟩ = some (.int .i64 k) := by rw [cell_of_row w b 2 _ _ (0, 0) h]; rfl
theorem VBox.cell3 (h : VBox w b A n c A' n' c' k g cg) : w.cell? ⟨b, 3, none⟩ = some (.slice (some ⟨g, 0, none⟩) n' cg) := by rw [cell_of_row w b 3 _ _ (0, 0) h]; rfl
theorem VBox.lt (h : VBox w b A n c A' n' c' k g cg) : b < w.heap.size := (Array.getElem?_eq_some_iff.1 h).1
theorem VBox.below (h : VBox w b A n c A' n' c' k g cg) (hb : Below w.heap.size w w') : VBox w' b A n c A' n' c' k g cg := (hb.block b h.lt).trans h
theorem VBox.over {lo : Nat} (h : VBox w b A n c A' n' c' k g cg) (hb : Below lo w w') (hlt : b < lo) : VBox w' b A n c A' n' c' k g cg := (hb.block b hlt).trans h
end
/-- The voltage vss of the map t, f lies at block b. -/
def VAt (w : World) (b : Nat) (t f : List Int) (k : Nat) (vss : List (List Int)) : Prop :=
  ∃ (A : Option Addr) (c : Nat) (A' : Option Addr) (c' lo g cg : Nat), VBox w b A f.length c A' f.length c' k g cg ∧ Rd w A f.length t ∧ Rd w A' f.length f ∧ Alg w lo g f.length cg (fun j => some (dV f vss j))
theorem VAt.below {w w' : World} {b k : Nat} {t f : List Int} {vss : List (List Int)} (h : VAt w b t f k vss) (hb : Below w.heap.size w w') : VAt w' b t f k vss := by
  obtain ⟨A, c, A', c', lo, g, cg, h1, h2, h3, h4⟩ := h
  exact ⟨A, c, A', c', lo, g, cg, h1.below hb, h2.below hb, h3.below hb, h4.below hb⟩

set_option maxHeartbeats 1600000 in
theorem coverable_any (b : Nat) (A A' : Option Addr) (n n' c c' : Nat) (t f : List Int) (w : World) (hb : Box2 w b A n c A' n' c') (h : Rd w A n t) (h' : Rd w A' n' f) (hn : n ≤ 1048576) (hn' : n' ≤ 1048576) (k : Int) {r : Bool} (hR : cvB t f k = r) :
    Calls Try.prog 65 #[.pointer (some ⟨b, 0, none⟩), .int .i64 k] w fun e w' => e = .returned (.bool r) ∧ Below w.heap.size w w' := by
  have HX := Lib.hid hb; have H := Lib.hid h; have H' := Lib.hid h'; have HR := Lib.hid hR; clear hb h h' hR
  cases hv : mapV t f with
  | false =>
    have HF : Hid (cvB t f k = false) := by rw [Hid, cvB, hv]; rfl
    have HV := Lib.hid hv; clear hv
    go_enter Try.func65, Try.ntmps65
    go_wp2_with (go_at_call 75; refine (valid_lit b A A' n n' c c' t f w HX.out H.out H'.out hn hn' HV.out).mono ?_; rintro e w1 ⟨rfl, b⟩; have HB1 := Lib.hid b; clear b)
    go_ret
    exact ⟨ret_bool (by rw [← HR.out, HF.out]), HB1.out⟩
  | true =>
    have hmap := mapV_iff.1 hv
    have hn12 : n ≤ 12 := by rw [← H.out.1]; exact hmap.turn.2.1
    have HV := Lib.hid hv; clear hv hmap
    by_cases hk1 : 1 ≤ k
    · have hd1 : decide ((1 : Int) ≤ k) = true := by simpa using hk1
      by_cases hk6 : k ≤ 6
      · have hd6 : decide (k ≤ 6) = true := by simpa using hk6
        obtain ⟨kn, rfl⟩ : ∃ kn : Nat, k = kn := ⟨k.toNat, by omega⟩
        obtain ⟨P, hP⟩ : ∃ P, kn * n = P := ⟨_, rfl⟩
        have hP72 : P ≤ 72 := by rw [← hP]; exact Nat.mul_le_mul (show kn ≤ 6 by omega) hn12
        have gP : IntKind.i64.wrap ((kn : Int) * (n : Int)) = (P : Int) := by rw [← Int.natCast_mul, hP]; exact IntWalk.i64_in _ (by omega)
        have gP' : (kn : Int) * (n : Int) = (P : Int) := by rw [← Int.natCast_mul, hP]
        obtain ⟨q, hq⟩ : ∃ q, decide ((P : Int) ≤ 12) = q := ⟨_, rfl⟩
        have HE : Hid (cvB t f (kn : Int) = q) := by rw [Hid, cvB, HV.out, H.out.1, gP', inB_true hk1 hk6, hq]; rfl
        clear hP hk1 hk6
        go_enter Try.func65, Try.ntmps65
        go_wp2_with (go_at_call 75; refine (valid_lit b A A' n n' c c' t f w HX.out H.out H'.out hn hn' HV.out).mono ?_; rintro e w1 ⟨rfl, b⟩; have HB1 := Lib.hid b; have c0 := (HX.out.below b).cell0; clear b)
        go_ret
        exact ⟨ret_bool (by rw [← HR.out, HE.out]), HB1.out⟩
      · have hd6 : decide (k ≤ 6) = false := by simpa using hk6
        have HF : Hid (cvB t f k = false) := by rw [Hid, cvB, HV.out, inB_false (by omega)]; rfl
        clear hk6 hk1
        go_enter Try.func65, Try.ntmps65
        go_wp2_with (go_at_call 75; refine (valid_lit b A A' n n' c c' t f w HX.out H.out H'.out hn hn' HV.out).mono ?_; rintro e w1 ⟨rfl, b⟩; have HB1 := Lib.hid b; clear b)
        go_ret
        exact ⟨ret_bool (by rw [← HR.out, HF.out]), HB1.out⟩
    · have hd1 : decide ((1 : Int) ≤ k) = false := by simpa using hk1
      have HF : Hid (cvB t f k = false) := by rw [Hid, cvB, HV.out, inB_false (by omega)]; rfl
      clear hk1
      go_enter Try.func65, Try.ntmps65
      go_wp2_with (go_at_call 75; refine (valid_lit b A A' n n' c c' t f w HX.out H.out H'.out hn hn' HV.out).mono ?_; rintro e w1 ⟨rfl, b⟩; have HB1 := Lib.hid b; clear b)
      go_ret
      exact ⟨ret_bool (by rw [← HR.out, HF.out]), HB1.out⟩

theorem sheetsPerm_any (A : Option Addr) (n c : Nat) (xs : List Int) (k : Int) (w : World) (h : Rd w A n xs) (hn : n ≤ 1048576) {r : Bool} (hR : (vld xs && ((n : Int) == k)) = r) :
    Calls Try.prog 78 #[.slice A n c, .int .i64 k] w fun e w' => e = .returned (.bool r) ∧ Below w.heap.size w w' := by
  have H := Lib.hid h; have HR := Lib.hid hR; clear h hR
  obtain ⟨q, hq⟩ : ∃ q, ((n : Int) == k) = q := ⟨_, rfl⟩
  cases hv : vld xs with
  | false =>
    have HF : Hid (false = r) := by rw [Hid, ← HR.out, hv]; rfl
    have HV := Lib.hid hv; clear hv hq
    go_enter Try.func78, Try.ntmps78
    go_wp2_with (go_at_call 39; refine (implValid_any A n c xs w H.out (by omega)).mono ?_; rintro e w1 ⟨rfl, b⟩; rw [HV.out]; have HB := Lib.hid b; clear b)
    go_ret
    exact ⟨ret_bool HF.out, HB.out⟩
  | true =>
    have HF : Hid (q = r) := by rw [Hid, ← HR.out, hv, hq]; rfl
    have HV := Lib.hid hv; clear hv
    go_enter Try.func78, Try.ntmps78
    go_wp2_with (go_at_call 39; refine (implValid_any A n c xs w H.out (by omega)).mono ?_; rintro e w1 ⟨rfl, b⟩; rw [HV.out]; have HB := Lib.hid b; clear b)
    go_ret
    exact ⟨ret_bool HF.out, HB.out⟩

end Go.Proofs.Ytlnegaenjcekcaa

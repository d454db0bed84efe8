/-
  Plain: a map that hangs together has at most two more vertices and faces than edges.
-/
import Derived.Test.YtakckkmhhedfpaaPar6
import Derived.Test.YtakckkmhhedfpaaCls
namespace Go.Proofs.Ytakckkmhhedfpaa


/-! ### A map, edge by edge -/
section
variable {t f : List Int}
def fk (f : List Int) (k x : Nat) : Nat := if x < k ∧ gn f x < k then gn f x else x
def Ok (t f : List Int) : Nat → Nat → Nat → Prop
  | 0 => Rch (gn t)
  | k + 1 => if gn f k < k then Mer (Ok t f k) k (gn f k) else Ok t f k
noncomputable def ek (f : List Int) (k : Nat) : Nat := sm k fun j => ch (gn f j < j)
theorem fk_yes (hp : Paired f) {k : Nat} (hk : k < f.length) (hb : gn f k < k) (x : Nat) : fk f (k + 1) x = fk f k (sw k (gn f k) x) := by
  have hfb := (hp k hk).2
  unfold fk sw
  by_cases e1 : x = k
  · subst e1
    rw [if_pos rfl, if_pos ⟨by omega, by omega⟩, if_neg (by rw [hfb]; omega)]
  · rw [if_neg e1]
    by_cases e2 : x = gn f k
    · rw [if_pos e2, e2, hfb, if_pos ⟨by omega, by omega⟩, if_neg (by omega)]
    · rw [if_neg e2]
      by_cases hx : x < f.length
      · have h2 : gn f x ≠ k := fun e => e2 (by rw [← e, (hp x hx).2])
        by_cases c : x < k ∧ gn f x < k
        · rw [if_pos c, if_pos ⟨by omega, by omega⟩]
        · rw [if_neg c, if_neg (fun h => c ⟨by omega, by omega⟩)]
      · rw [if_neg (by omega), if_neg (by omega)]
theorem fk_no (hp : Paired f) {k : Nat} (hk : k < f.length) (hb : ¬ gn f k < k) (x : Nat) : fk f (k + 1) x = fk f k x := by
  have hfb := hp k hk
  unfold fk
  by_cases e1 : x = k
  · subst e1
    rw [if_neg (by omega), if_neg (by omega)]
  · by_cases hx : x < f.length
    · by_cases e2 : gn f x = k
      · have h3 : x = gn f k := by rw [← e2, (hp x hx).2]
        rw [if_neg (by omega), if_neg (by omega)]
      · by_cases c : x < k ∧ gn f x < k
        · rw [if_pos c, if_pos ⟨by omega, by omega⟩]
        · rw [if_neg c, if_neg (fun h => c ⟨by omega, by omega⟩)]
    · rw [if_neg (by omega), if_neg (by omega)]
structure Edges (t f : List Int) (k : Nat) : Prop where
  prm : Prm t.length (fun x => gn t (fk f k x))
  eqv : Eqv t.length (Ok t f k)
  sub : ∀ x y, x < t.length → y < t.length → Rch (fun x => gn t (fk f k x)) x y → Ok t f k x y
  le : cls t.length (Rch fun x => gn t (fk f k x)) + cls t.length (Rch (gn t)) ≤ 2 * cls t.length (Ok t f k) + ek f k
theorem edges (hm : IsMap t f) : ∀ k, k ≤ t.length → Edges t f k
  | 0, _ => by
    have e : (fun x => gn t (fk f 0 x)) = gn t := funext fun x => by unfold fk; rw [if_neg (by omega)]
    refine ⟨by rw [e]; exact hm.turn.prm, Rch.eqv hm.turn.prm, fun x y _ _ h => by rw [e] at h; exact h, ?_⟩
    rw [e]
    show _ ≤ 2 * cls t.length (Rch (gn t)) + 0
    omega
  | k + 1, hk => by
    have ih := edges hm k (by omega)
    have hkf : k < f.length := by rw [← hm.len]; omega
    have hkn : k < t.length := by omega
    have hek : ek f (k + 1) = ek f k + ch (gn f k < k) := rfl
    by_cases hb : gn f k < k
    · have hbn : gn f k < t.length := by omega
      have e : (fun x => gn t (fk f (k + 1) x)) = fun x => (fun x => gn t (fk f k x)) (sw k (gn f k) x) := funext fun x => by rw [fk_yes hm.paired hkf hb]
      have eO : Ok t f (k + 1) = Mer (Ok t f k) k (gn f k) := by rw [Ok, if_pos hb]
      have hmer := ih.eqv.mer hkn hbn
      rw [ch_true hb] at hek
      have hc := ih.le
      refine ⟨by rw [e]; exact ih.prm.sw hkn hbn, by rw [eO]; exact hmer, fun x y hx hy h => ?_, ?_⟩
      · rw [e] at h
        rw [eO]
        obtain ⟨q, hq⟩ := h
        have := sw_mer (p := fun x => gn t (fk f k x)) (a := k) (b := gn f k) x q
        rw [hq] at this
        rcases this with h | ⟨h, h'⟩ | ⟨h, h'⟩
        · exact .inl (ih.sub _ _ hx hy h)
        · exact .inr (.inl ⟨ih.sub _ _ hx hkn h, ih.sub _ _ hbn hy h'⟩)
        · exact .inr (.inr ⟨ih.sub _ _ hx hbn h, ih.sub _ _ hkn hy h'⟩)
      · rw [e, eO, hek]
        show cls t.length (Rch fun x => gn t (fk f k (sw k (gn f k) x))) + cls t.length (Rch (gn t)) ≤ _
        by_cases hO : Ok t f k k (gn f k)
        · have h1 := cls_sw_le ih.prm hkn hbn
          have h2 : cls t.length (Ok t f k) ≤ cls t.length (Mer (Ok t f k) k (gn f k)) := cls_mono fun x y hx hy h => by
            rcases h with h | ⟨h, h'⟩ | ⟨h, h'⟩
            · exact h
            · exact ih.eqv.trans _ _ _ hx hkn hy h (ih.eqv.trans _ _ _ hkn hbn hy hO h')
            · exact ih.eqv.trans _ _ _ hx hbn hy h (ih.eqv.trans _ _ _ hbn hkn hy (ih.eqv.symm _ _ hkn hbn hO) h')
          omega
        · have h1 := cls_sw_lt ih.prm hkn hbn (fun h => hO (ih.sub _ _ hkn hbn h))
          have h2 := cls_mer_ge ih.eqv hkn hbn
          omega
    · have e : (fun x => gn t (fk f (k + 1) x)) = fun x => gn t (fk f k x) := funext fun x => by rw [fk_no hm.paired hkf hb]
      have eO : Ok t f (k + 1) = Ok t f k := by rw [Ok, if_neg hb]
      rw [ch_false hb] at hek
      refine ⟨by rw [e]; exact ih.prm, by rw [eO]; exact ih.eqv, fun x y hx hy h => by rw [e] at h; rw [eO]; exact ih.sub x y hx hy h, ?_⟩
      rw [e, eO, hek]
      exact ih.le
theorem ok_succ {k x y : Nat} (h : Ok t f k x y) : Ok t f (k + 1) x y := by
  rw [Ok]
  split
  · exact .inl h
  · exact h
theorem ok_mono {k x y : Nat} (h : Ok t f k x y) : ∀ d, Ok t f (k + d) x y
  | 0 => h
  | d + 1 => ok_succ (ok_mono h d)
theorem ok_all (hm : IsMap t f) {x : Nat} (hx : x < t.length) : Ok t f t.length 0 x := by
  have hE := edges hm t.length (Nat.le_refl _)
  have hflip : ∀ y, y < t.length → gn f y < y → Ok t f t.length y (gn f y) := fun y hy hb => by
    have h1 : Ok t f (y + 1) y (gn f y) := by
      rw [Ok, if_pos hb]
      have he := (edges hm y (by omega)).eqv
      exact .inr (.inl ⟨he.refl y hy, he.refl _ (by omega)⟩)
    have := ok_mono h1 (t.length - (y + 1))
    rwa [show y + 1 + (t.length - (y + 1)) = t.length by omega] at this
  have hall : ∀ y, Lead t f 0 y → y < t.length ∧ Ok t f t.length 0 y := fun y h => by
    induction h with
    | refl => exact ⟨hm.turn.1, hE.eqv.refl 0 hm.turn.1⟩
    | @one y h ih =>
      obtain ⟨h1, h2⟩ := ih
      have h3 : Ok t f t.length y (gn t y) := by
        have : Ok t f 0 y (gn t y) := ⟨1, rfl⟩
        have := ok_mono this t.length
        rwa [Nat.zero_add] at this
      exact ⟨hm.turn.gn_lt h1, hE.eqv.trans _ _ _ hm.turn.1 h1 (hm.turn.gn_lt h1) h2 h3⟩
    | @two y h ih =>
      obtain ⟨h1, h2⟩ := ih
      have hyf : y < f.length := by rw [← hm.len]; exact h1
      have hb : gn f y < t.length := by rw [hm.len]; exact hm.flip.gn_lt hyf
      have hp := hm.paired y hyf
      have h3 : Ok t f t.length y (gn f y) := by
        by_cases c : gn f y < y
        · exact hflip y h1 c
        · have := hflip (gn f y) hb (by rw [hp.2]; omega)
          rw [hp.2] at this
          exact hE.eqv.symm _ _ hb h1 this
      exact ⟨hb, hE.eqv.trans _ _ _ hm.turn.1 h1 hb h2 h3⟩
  exact (hall x (hm.lead0 hx)).2
/-- At most two more vertices and faces than edges. -/
theorem euler_le (hm : IsMap t f) : (cyclesL (mulL f t)).length + (cyclesL t).length ≤ t.length / 2 + 2 := by
  have hE := edges hm t.length (Nat.le_refl _)
  have hD := hm.dual.turn
  have hl : (mulL f t).length = t.length := (mulL_len _ _).trans hm.len.symm
  have h0 : 0 < t.length := hm.turn.1
  have hone : cls t.length (Ok t f t.length) ≤ 1 := by
    refine sm_le_one t.length (fun _ _ => ch_le _) fun i j hi hj h h' => ?_
    have key : ∀ i, i < t.length → ch (∀ y, y < t.length → Ok t f t.length i y → i ≤ y) ≠ 0 → i = 0 := fun i hi h => by
      have hP : ∀ y, y < t.length → Ok t f t.length i y → i ≤ y := by
        apply Classical.byContradiction
        intro hno
        exact h (ch_false hno)
      have := hP 0 h0 (hE.eqv.symm 0 i h0 hi (ok_all hm hi))
      omega
    rw [key i hi h, key j hj h']
  have he2 : 2 * ek f t.length = t.length := by
    have h1 := sm_prm (fun x => ch (x < gn f x)) f.length (gn f) hm.flip.prm
    have h2 : sm f.length (fun x => ch (x < gn f x)) + sm f.length (fun x => ch (gn f x < x)) = f.length := by
      rw [← sm_add, sm_congr f.length (G := fun _ => 1) (fun x hx => ?_), sm_const, Nat.mul_one]
      have := (hm.paired x hx).1
      by_cases e : x < gn f x
      · rw [ch_true e, ch_false (by omega)]
      · rw [ch_false e, ch_true (by omega)]
    have h3 : sm f.length (fun x => ch (gn f x < gn f (gn f x))) = sm f.length (fun x => ch (gn f x < x)) := sm_congr f.length fun x hx => by rw [(hm.paired x hx).2]
    rw [h3] at h1
    unfold ek
    rw [hm.len]
    omega
  have hsame : cls t.length (Rch (gn (mulL f t))) ≤ cls t.length (Rch fun x => gn t (fk f t.length x)) := cls_mono fun x y hx _ ⟨k, e⟩ => by
    refine ⟨k, ?_⟩
    rw [← e]
    have hpd : Prm t.length (gn (mulL f t)) := by rw [← hl]; exact hD.prm
    clear e
    induction k with
    | zero => rfl
    | succ k ih =>
      rw [itf, itf, ih]
      have hlt := hE.prm.itf_lt hx k
      generalize itf (fun x => gn t (fk f t.length x)) k x = z at hlt ⊢
      have hzf : z < f.length := by rw [← hm.len]; exact hlt
      show gn (mulL f t) z = gn t (fk f t.length z)
      rw [gn_mulL hzf]
      unfold fk
      rw [if_pos ⟨hlt, by rw [hm.len]; exact hm.flip.gn_lt hzf⟩]
  have c1 : (cyclesL t).length = cls t.length (Rch (gn t)) := by rw [← lows_cycles hm.turn, lows_cls hm.turn.prm]
  have c2 : (cyclesL (mulL f t)).length = cls t.length (Rch (gn (mulL f t))) := by rw [← lows_cycles hD, lows_cls hD.prm, hl]
  have hle := hE.le
  omega
end

end Go.Proofs.Ytakckkmhhedfpaa

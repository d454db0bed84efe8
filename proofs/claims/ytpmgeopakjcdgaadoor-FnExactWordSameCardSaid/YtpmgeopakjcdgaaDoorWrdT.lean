/-
  One byte as a text; digits; names of letters: the model's.
-/
import Derived.Test.YtpmgeopakjcdgaaDoorWrdM
import Derived.Laws.IdiomStrings
namespace Go.Proofs.YtpmgeopakjcdgaaDoor
open Go.RowKit

/-- A digit's letter. -/
def dgt (n : Nat) : UInt8 := UInt8.ofNat (48 + n)
theorem str_app (a b : ByteArray) : (a ++ b).data.toList = a.data.toList ++ b.data.toList := by simp [ByteArray.data_append]
theorem str_mk {a : ByteArray} {l : List UInt8} (h : a.data.toList = l) : a = ⟨l.toArray⟩ := by subst h; cases a; simp
theorem ret_str {a : ByteArray} {l : List UInt8} (h : a.data.toList = l) : Ending.returned (.string a) = .returned (.string ⟨l.toArray⟩) := by rw [str_mk h]
theorem one_str (w : World) (c : UInt8) : (convert 48 9 (.slice (some ⟨w.heap.size, 0, none⟩) 1 1)).run Tryd.prog (w.alloc (.cells #[.int .u8 (c.toNat : Int)] 5)) = .ok (.string ⟨#[c]⟩) (w.alloc (.cells #[.int .u8 (c.toNat : Int)] 5)) := by
  refine run_convert_bytes_back (P := Tryd.prog) _ 48 9 5 ⟨w.heap.size, 0, none⟩ 1 [c] Tryd.underlying48 Tryd.underlying5 Tryd.underlying9 (fun j hj => ?_)
  obtain rfl : j = 0 := by simp at hj; omega
  have h := cell_of_row (w.alloc (.cells #[.int .u8 (c.toNat : Int)] 5)) w.heap.size 0 _ _ (0, 0) (heap_alloc_new w _)
  exact h

set_option maxRecDepth 20000 in
set_option maxHeartbeats 400000 in
theorem l6Dec_small (n : Nat) (w : World) (hn : n < 10) :
    Calls Tryd.prog 32 #[.int .i64 (n : Int)] w fun e w' => e = .returned (.string ⟨#[dgt n]⟩) ∧ Below w.heap.size w w' := by
  obtain ⟨c, hc⟩ : ∃ c, dgt n = c := ⟨_, rfl⟩
  have hcn : 48 + (n : Int) = (c.toNat : Int) := by rw [← hc, dgt, UInt8.toNat_ofNat', Nat.mod_eq_of_lt (by omega)]; omega
  rw [hc]
  have HS := one_str w c
  have hd1 : decide ((n : Int) < -9223372036854775807) = false := by rw [decide_eq_false_iff_not]; omega
  have hd2 : decide ((n : Int) < 0) = false := by simp
  have hd3 : decide ((n : Int) < 10) = true := by simp; omega
  clear hc
  go_enter Tryd.func32, Tryd.ntmps32
  go_wp2_with fail
  go_ret
  exact ⟨rfl, (Below.refl _ _).alloc (Nat.le_refl _) _⟩

end Go.Proofs.YtpmgeopakjcdgaaDoor

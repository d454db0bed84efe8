/-
  One byte as a text; digits; names of letters: the model's.
-/
import Derived.Test.YtmhalaleoklplaaDoorWrdM
import Derived.Laws.IdiomStrings
namespace Go.Proofs.YtmhalaleoklplaaDoor
open Go.RowKit

/-- A digit's letter. -/
def dgt (n : Nat) : UInt8 := UInt8.ofNat (48 + n)
theorem str_app (a b : ByteArray) : (a ++ b).data.toList = a.data.toList ++ b.data.toList := by simp [ByteArray.data_append]
theorem str_mk {a : ByteArray} {l : List UInt8} (h : a.data.toList = l) : a = ⟨l.toArray⟩ := by subst h; cases a; simp
theorem ret_str {a : ByteArray} {l : List UInt8} (h : a.data.toList = l) : Ending.returned (.string a) = .returned (.string ⟨l.toArray⟩) := by rw [str_mk h]
theorem one_str (w : World) (c : UInt8) : (convert 22 9 (.slice (some ⟨w.heap.size, 0, none⟩) 1 1)).run Tryd.prog (w.alloc (.cells #[.int .u8 (c.toNat : Int)] 5)) = .ok (.string ⟨#[c]⟩) (w.alloc (.cells #[.int .u8 (c.toNat : Int)] 5)) := by
  refine run_convert_bytes_back (P := Tryd.prog) _ 22 9 5 ⟨w.heap.size, 0, none⟩ 1 [c] Tryd.underlying22 Tryd.underlying5 Tryd.underlying9 (fun j hj => ?_)
  obtain rfl : j = 0 := by simp at hj; omega
  have h := cell_of_row (w.alloc (.cells #[.int .u8 (c.toNat : Int)] 5)) w.heap.size 0 _ _ (0, 0) (heap_alloc_new w _)
  exact h

set_option maxHeartbeats 400000 in
theorem l8Name_any (n : Nat) (s : Bool) (w : World) (hn : n < 32) :
    Calls Tryd.prog 27 #[.int .i64 (n : Int), .bool s] w fun e w' => e = .returned (.string ⟨#[nmb n s]⟩) ∧ Below w.heap.size w w' := by
  obtain ⟨c, hc⟩ : ∃ c, nmb n s = c := ⟨_, rfl⟩
  rw [hc]
  have HS := one_str w c
  cases s with
  | true =>
    have hcn : 97 + (n : Int) = (c.toNat : Int) := by rw [← hc]; simp [nmb]; omega
    clear hc
    go_enter Tryd.func27, Tryd.ntmps27
    go_wp2_with fail
    go_ret
    exact ⟨rfl, (Below.refl _ _).alloc (Nat.le_refl _) _⟩
  | false =>
    have hcn : 65 + (n : Int) = (c.toNat : Int) := by rw [← hc]; simp [nmb]; omega
    clear hc
    go_enter Tryd.func27, Tryd.ntmps27
    go_wp2_with fail
    go_ret
    exact ⟨rfl, (Below.refl _ _).alloc (Nat.le_refl _) _⟩

end Go.Proofs.YtmhalaleoklplaaDoor

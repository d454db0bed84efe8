/-
  Words: numbers, sides, gluings: what the laws ask of the model and of the program.
-/
import Derived.Test.YtmhalaleoklplaaDoorWrdX
namespace Go.Proofs.YtmhalaleoklplaaDoor
open Go.RowKit

set_option maxHeartbeats 800000 in
theorem number_any (w : World) (s : ByteArray) (hw : Word s.data.toList) :
    Calls Tryd.prog 36 #[.string s] w fun e w' => e = .returned (.int .i64 (numN s.data.toList)) ∧ Below w.heap.size w w' := by
  have hle := hw.cor_le; have hlen := hw.len
  rw [len_str] at hle hlen
  obtain ⟨r, hr⟩ : ∃ r, numN s.data.toList = r := ⟨_, rfl⟩
  have HR : Hid ((corN s.data.toList : Int) - (s.size / 2 : Nat) + 1 = r) := by rw [Hid, ← hr, numN, len_str]
  rw [hr]
  have HW := Lib.hid hw; clear hr hw
  have HC := Lib.hid (fun W => corners_any s W HW.out)
  obtain ⟨c, hc⟩ : ∃ c, corN s.data.toList = c := ⟨_, rfl⟩
  obtain ⟨h, hh⟩ : ∃ h, s.size / 2 = h := ⟨_, rfl⟩
  rw [hc] at HC hle HR
  rw [hh] at HR
  have hd : (s.size : Int) / 2 = (h : Int) := by omega
  have hd2 : (s.size : Int).tdiv 2 = (h : Int) := by rw [Int.tdiv_eq_ediv_of_nonneg (by omega)]; omega
  have hc10 : c ≤ 10 := by omega
  have hh10 : h ≤ 10 := by omega
  clear hc hh hle
  go_enter Tryd.func36, Tryd.ntmps36
  go_wp2_with (go_at_call 43; refine (HC.out _).mono ?_; rintro e w' ⟨rfl, b⟩; have HB1 := Lib.hid b; clear b)
  go_ret
  exact ⟨ret_intE (by rw [← HR.out]), HB1.out⟩

end Go.Proofs.YtmhalaleoklplaaDoor

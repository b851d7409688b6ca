/- The walk of SymtabHashes. -/
import Derived.Test.YthljcgjmnhakgaaSLive
namespace Go.Proofs.Ythljcgjmnhakgaa
open Go.ChangeShapes Go.WideShapes Go.ChangeAt Go.RowKit Go.Maps
set_option linter.unusedVariables false
set_option linter.unusedSimpArgs false

theorem symtabHashes_walk (s : ByteArray) (c : Int) (w : World) (hs : s.size ≤ 140737488351232) (hc : (Lit.int .u8 c).wf = true) :
    Calls Try.prog 5 #[.string s, .int .u8 c] w fun e w' => e = .returned (.bool true) ∧ Below w.heap.size w w' := by
  obtain ⟨c0, c1⟩ := u8_bounds hc
  clear hc
  have hr := hashL_range s.data.toList
  have k1 : Sem.run Try.prog (convert 23 9 (.slice (some ⟨w.heap.size, 0, none⟩) 1 1)) (w.alloc (.cells #[.int .u8 c] 5)) = .ok (.string (strOfNums [c])) (w.alloc (.cells #[.int .u8 c] 5)) :=
    conv_row _ (some ⟨w.heap.size, 0, none⟩) 1 1 (fun _ => c) (.inr ⟨w.heap.size, 0, rfl, fun i hi => by obtain rfl : i = 0 := (by omega); simp⟩) (by intro h; cases h)
  have hz : (strOfNums [c]).size = 1 := rfl
  have hh : hashB s < 268435456 := hr.2
  have hg1 : gnuB (s ++ strOfNums [c]) = (33 * gnuB s + c) % 4294967296 := by
    unfold gnuB
    have e : (s ++ strOfNums [c]).data.toList = s.data.toList ++ [c.toNat.toUInt8] := by simp [strOfNums]
    rw [e, gnuL_snoc]
    congr 2
    simp
    omega
  have hg2 := gnuL_range s.data.toList
  have hg3 : 0 ≤ gnuB s ∧ gnuB s < 4294967296 := hg2
  have hsz : ¬ 9223372036854775807 < s.size + 1 := by omega
  have hsz2 : (s ++ strOfNums [c]).size ≤ 9223372036854775806 := by rw [ByteArray.size_append, hz]; omega
  have hge : gnuB ⟨#[]⟩ = 5381 := by kernel_rfl
  clear hr hg2
  go_enter Try.func5, Try.ntmps5
  go_wp2_with (first
    | (go_at_call 12; refine (hash_any _ _ (by omega)).mono ?_; rintro e w2 ⟨rfl, hw2⟩; subst w2)
    | (go_at_call 14; refine (gnu_any _ _ (by first | assumption | omega | decide)).mono ?_; rintro e w2 ⟨rfl, hw2⟩; subst w2)
    | (go_at_call 17; refine (live_any _).mono ?_; rintro e w2 ⟨rfl, hb⟩))
  go_ret
  exact ⟨rfl, ((Below.refl _ _).alloc (Nat.le_refl _) _).trans (hb.mono (by simp))⟩
end Go.Proofs.Ythljcgjmnhakgaa

/- The program's kinds of bytes: the table is made; a new reader. -/
import Derived.Test.YthdkbjifjmhgoaaDoorQxK
import Derived.Laws.Tables
namespace Go.Proofs.YthdkbjifjmhgoaaDoor
open Go.ChangeShapes Go.WideShapes Go.ChangeAt Go.RowKit
set_option linter.unusedVariables false
set_option linter.unusedSimpArgs false

set_option maxHeartbeats 4000000 in
set_option maxRecDepth 10000 in
theorem kadd_any (w : World) (kb : Nat) (f : Nat → Int) (K : Int) (bs : ByteArray) (h : KB w kb f) (hl : bs.size ≤ 256) :
    Calls Tryd.prog 45 #[.pointer (some ⟨kb, 0, none⟩), .int .u8 K, .string bs] w fun e w' => e = .returned (.tuple #[]) ∧ (KB w' kb (orAll K (lo bs) f) ∧ Turn (fun k => k = kb) w w') := by
  have H0 : Hid (KB w kb (orAll K ((lo bs).take 0) f)) := ⟨h⟩
  clear h
  go_enter Tryd.func45, Tryd.ntmps45
  go_wp2_with fail
  go_loopw [9] (fun i wr => ∃ n : Nat, i = .int .i64 n ∧ n ≤ bs.size ∧ Hid (KB wr kb (orAll K ((lo bs).take n) f) ∧ Turn (fun k => k = kb) w wr)) (fun i _ => bs.size - (intOf i).toNat)
  case atStart => exact ⟨0, rfl, by omega, ⟨H0.out, Turn.refl _ _⟩⟩
  case round =>
    obtain ⟨n, rfl, hn, HW⟩ := hrel
    obtain ⟨K1, T1⟩ := HW.out
    by_cases hlt : n < bs.size
    · have hlti : (n : Int) < (bs.size : Int) := by omega
      have hn0 : (0 : Int) ≤ (n : Int) := by omega
      have hc := bs[n].toNat_lt
      obtain ⟨kc, kf⟩ := K1.cell bs[n].toNat hc
      have hsn : orAll K ((lo bs).take (n + 1)) f = upd (orAll K ((lo bs).take n) f) bs[n].toNat (bits .or .u8 (orAll K ((lo bs).take n) f bs[n].toNat) K) := by
        rw [List.take_succ_eq_append_getElem (by rw [lo_len]; exact hlt), orAll_snoc]; rfl
      have HS : Hid (KB (wr.setCell ⟨kb, bs[n].toNat, none⟩ (.int .u8 (bits .or .u8 (orAll K ((lo bs).take n) f bs[n].toNat) K))) kb (orAll K ((lo bs).take (n + 1)) f)) := ⟨by rw [hsn]; exact K1.set _ hc _⟩
      have HT1 : Hid _ := ⟨T1⟩
      clear hsn K1 T1 HW H0
      generalize orAll K ((lo bs).take n) f bs[n].toNat = z at *
      have i1 : ((bs[n].toNat : Nat) : Int) < 256 := by omega
      have i0 : (0 : Int) ≤ ((bs[n].toNat : Nat) : Int) := by omega
      go_wp2
      go_region
      all_goals
        go_wp2
        go_roundw
        case rel => exact ⟨n + 1, by go_num, by omega, ⟨HS.out, Turn.drewN (Turn.setCell (S := fun k => k = kb) HT1.out ⟨kb, bs[n].toNat, none⟩ rfl _) 1⟩⟩
        case measure => simp [intOf]; omega
    · have hnn : n = bs.size := by omega
      have hlti : ¬ (n : Int) < (bs.size : Int) := by omega
      have HF : Hid (KB wr kb (orAll K (lo bs) f)) := ⟨by have := K1; rw [hnn, List.take_of_length_le (by rw [lo_len]; exact Nat.le_refl _)] at this; exact this⟩
      have HT1 : Hid _ := ⟨T1⟩
      clear K1 T1 HW H0 hnn
      go_wp2
      go_end0
      exact ⟨rfl, HF.out, HT1.out⟩
end Go.Proofs.YthdkbjifjmhgoaaDoor

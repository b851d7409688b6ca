/- The contracts of the document's own readers of numbers in groups. -/
import Derived.Test.YtlbnhekelpdioaaDoorReads
import Derived.Test.YtlbnhekelpdioaaDoorRefPlain
namespace Go.Proofs.YtlbnhekelpdioaaDoor
open Go.ChangeShapes Go.WideShapes Go.ChangeAt Go.RowKit
set_option linter.unusedVariables false

theorem rgroups_num (b off len cap a c : Nat) (bs : Nat → Int) (w : World) (hl : len ≤ 140737488355328)
    (hcell : ∀ i, i < len → w.cell? ⟨b, off + i, none⟩ = some (.int .u8 (bs i))) (h : Num len bs a c) :
    Calls Tryd.prog 60 #[.slice (some ⟨b, off, none⟩) len cap, .int .i64 a] w fun e w' => e = .returned (.int .i64 c) ∧ w' = w := by
  obtain ⟨hc1, hc2, hc3, hhi, hlo⟩ := h
  have HC : Hid (∀ i, i < len → w.cell? ⟨b, off + i, none⟩ = some (.int .u8 (bs i))) := hcell
  have HH : Hid (∀ j, j + 1 < c → 128 ≤ bs (a + j)) := hhi
  have HL : Hid (bs (a + (c - 1)) < 128) := hlo
  clear hcell hhi hlo
  go_enter Tryd.func60, Tryd.ntmps60
  go_wp2
  go_loop [5] (fun i => ∃ j : Nat, a ≤ j ∧ j < a + c ∧ i = .int .i64 j) (fun i => len - (intOf i).toNat)
  case atStart => exact ⟨a, by omega, by omega, rfl⟩
  case round =>
    obtain ⟨j, hj0, hj1, rfl⟩ := hrel
    have hcx := HC.out j (by omega)
    by_cases hlt : j + 1 < a + c
    · have h128 := HH.out (j - a) (by omega)
      rw [show a + (j - a) = j from by omega] at h128
      have h10 : ((j : Int) - (a : Int) == 10) = false := by simp; omega
      go_wp2
      go_round
      case rel => exact ⟨j + 1, by omega, by omega, by go_num⟩
      case measure => simp [intOf]; omega
    · have h128 : bs j < 128 := by have := HL.out; rw [show a + (c - 1) = j from by omega] at this; exact this
      go_wp2
      go_ret
      exact ⟨ret_int (by omega), rfl⟩

theorem rgroups_long (b off len cap a : Nat) (bs : Nat → Int) (w : World) (hl : len ≤ 140737488355328)
    (hcell : ∀ i, i < len → w.cell? ⟨b, off + i, none⟩ = some (.int .u8 (bs i))) (hend : a + 11 ≤ len) (hhi : ∀ j, j < 10 → 128 ≤ bs (a + j)) :
    Calls Tryd.prog 60 #[.slice (some ⟨b, off, none⟩) len cap, .int .i64 a] w fun e w' => e = .returned (.int .i64 11) ∧ w' = w := by
  have HC : Hid (∀ i, i < len → w.cell? ⟨b, off + i, none⟩ = some (.int .u8 (bs i))) := hcell
  have HH : Hid (∀ j, j < 10 → 128 ≤ bs (a + j)) := hhi
  clear hcell hhi
  go_enter Tryd.func60, Tryd.ntmps60
  go_wp2
  go_loop [5] (fun i => ∃ j : Nat, a ≤ j ∧ j ≤ a + 10 ∧ i = .int .i64 j) (fun i => len - (intOf i).toNat)
  case atStart => exact ⟨a, by omega, by omega, rfl⟩
  case round =>
    obtain ⟨j, hj0, hj1, rfl⟩ := hrel
    have hcx := HC.out j (by omega)
    by_cases hlt : j < a + 10
    · have h128 := HH.out (j - a) (by omega)
      rw [show a + (j - a) = j from by omega] at h128
      have h10 : ((j : Int) - (a : Int) == 10) = false := by simp; omega
      go_wp2
      go_round
      case rel => exact ⟨j + 1, by omega, by omega, by go_num⟩
      case measure => simp [intOf]; omega
    · have hj : j = a + 10 := by omega
      have HJ : Hid (j = a + 10) := hj
      clear hj
      by_cases hb : bs j < 128
      all_goals
        go_wp2
        go_ret
        exact ⟨ret_int (by have := HJ.out; omega), rfl⟩

theorem rgroups_end (b off len cap a : Nat) (bs : Nat → Int) (w : World) (hl : len ≤ 140737488355328) (ha : a ≤ len)
    (hcell : ∀ i, i < len → w.cell? ⟨b, off + i, none⟩ = some (.int .u8 (bs i))) (hend : len ≤ a + 10) (hhi : ∀ j, a + j < len → 128 ≤ bs (a + j)) :
    Calls Tryd.prog 60 #[.slice (some ⟨b, off, none⟩) len cap, .int .i64 a] w fun e w' => e = .returned (.int .i64 0) ∧ w' = w := by
  have HC : Hid (∀ i, i < len → w.cell? ⟨b, off + i, none⟩ = some (.int .u8 (bs i))) := hcell
  have HH : Hid (∀ j, a + j < len → 128 ≤ bs (a + j)) := hhi
  clear hcell hhi
  go_enter Tryd.func60, Tryd.ntmps60
  go_wp2
  go_loop [5] (fun i => ∃ j : Nat, a ≤ j ∧ j ≤ len ∧ i = .int .i64 j) (fun i => len - (intOf i).toNat)
  case atStart => exact ⟨a, by omega, by omega, rfl⟩
  case round =>
    obtain ⟨j, hj0, hj1, rfl⟩ := hrel
    by_cases hlt : j < len
    · have hcx := HC.out j (by omega)
      have h128 := HH.out (j - a) (by omega)
      rw [show a + (j - a) = j from by omega] at h128
      have h10 : ((j : Int) - (a : Int) == 10) = false := by simp; omega
      go_wp2
      go_round
      case rel => exact ⟨j + 1, by omega, by omega, by go_num⟩
      case measure => simp [intOf]; omega
    · go_wp2
      go_ret
      exact ⟨rfl, rfl⟩

theorem rgroups_out (ao : Option Addr) (len cap : Nat) (t : Int) (w : World) (hl : len ≤ 140737488355328) (h : t < 0 ∨ (len : Int) < t) :
    Calls Tryd.prog 60 #[.slice ao len cap, .int .i64 t] w fun e w' => e = .returned (.int .i64 0) ∧ w' = w := by
  by_cases h0 : t < 0
  · clear h
    go_enter Tryd.func60, Tryd.ntmps60
    go_wp2
    go_ret
    exact ⟨rfl, rfl⟩
  · have h1 : (len : Int) < t := by omega
    clear h
    go_enter Tryd.func60, Tryd.ntmps60
    go_wp2
    go_ret
    exact ⟨rfl, rfl⟩

theorem rgroups_nil (ao : Option Addr) (cap : Nat) (w : World) :
    Calls Tryd.prog 60 #[.slice ao 0 cap, .int .i64 0] w fun e w' => e = .returned (.int .i64 0) ∧ w' = w := by
  go_enter Tryd.func60, Tryd.ntmps60
  go_wp2
  go_loop [5] (fun i => i = .int .i64 0) (fun i => 0)
  case atStart => rfl
  case round =>
    subst hrel
    go_wp2
    go_ret
    exact ⟨rfl, rfl⟩

theorem rgroups_fin (ao : Option Addr) (len cap : Nat) (bs : Nat → Int) (t : Int) (w : World) (hr : Row w ao len bs) (hl : len ≤ 140737488355328) (h : Fin len bs t) :
    Calls Tryd.prog 60 #[.slice ao len cap, .int .i64 t] w fun e w' => e = .returned (.int .i64 0) ∧ w' = w := by
  rcases h with h | ⟨a, rfl, h1, h2⟩
  · exact rgroups_out ao len cap t w hl (.inl h)
  · by_cases ho : len < a
    · exact rgroups_out ao len cap a w hl (.inr (by omega))
    · by_cases h0 : len = 0
      · subst h0
        obtain rfl : a = 0 := by omega
        exact rgroups_nil ao cap w
      · rcases hr with hr | ⟨b, off, rfl, hc⟩
        · exact absurd hr h0
        · exact rgroups_end b off len cap a bs w hl (by omega) hc h1 h2

theorem rraw_any (b off len cap a c : Nat) (bs : Nat → Int) (w : World) (hl : len ≤ 140737488355328)
    (hcell : ∀ i, i < len → w.cell? ⟨b, off + i, none⟩ = some (.int .u8 (bs i))) (hbs : ∀ i, 0 ≤ bs i ∧ bs i < 256) (hc : c ≤ 10) (hc3 : a + c ≤ len) :
    Calls Tryd.prog 61 #[.slice (some ⟨b, off, none⟩) len cap, .int .i64 a, .int .i64 c] w fun e w' => e = .returned (.int .u64 (uacc bs a c % 18446744073709551616)) ∧ w' = w := by
  have HC : Hid (∀ i, i < len → w.cell? ⟨b, off + i, none⟩ = some (.int .u8 (bs i))) := hcell
  have HB : Hid (∀ i, 0 ≤ bs i ∧ bs i < 256) := hbs
  clear hcell hbs
  go_enter Tryd.func61, Tryd.ntmps61
  go_wp2
  go_loop [7, 8] (fun n i => ∃ k : Nat, k ≤ c ∧ i = .int .i64 k ∧ n = .int .u64 (uacc bs a k % 18446744073709551616)) (fun _ i => 10 - (intOf i).toNat)
  case atStart => exact ⟨0, by omega, rfl, rfl⟩
  case round =>
    obtain ⟨k, hk, rfl, rfl⟩ := hrel
    by_cases hlt : k < c
    · have hcx := HC.out (a + k) (by omega)
      go_wp2
      go_round
      case rel => exact ⟨k + 1, by omega, by go_num, by rw [uacc_step_u64 bs a k (by omega) (HB.out _).1 (HB.out _).2]⟩
      case measure => simp [intOf]; omega
    · obtain rfl : k = c := by omega
      go_wp2
      go_ret
      exact ⟨rfl, rfl⟩

theorem rreadU_num (b off len cap a c : Nat) (bs : Nat → Int) (w : World) (hl : len ≤ 140737488355328)
    (hcell : ∀ i, i < len → w.cell? ⟨b, off + i, none⟩ = some (.int .u8 (bs i))) (hbs : ∀ i, 0 ≤ bs i ∧ bs i < 256) (h : Num len bs a c) (ht : c = 10 → bs (a + 9) ≤ 1) :
    Calls Tryd.prog 33 #[.slice (some ⟨b, off, none⟩) len cap, .int .i64 a] w fun e w' => e = .returned (.tuple #[.int .i64 (wrap64 (uacc bs a c)), .int .i64 (a + c), .int .i64 0]) ∧ w' = w := by
  have G := rgroups_num b off len cap a c bs w hl hcell h
  have R := rraw_any b off len cap a c bs w hl hcell hbs h.2.1 h.2.2.1
  have V : Hid (wrap64 (uacc bs a c % 18446744073709551616) = wrap64 (uacc bs a c)) := wrap64_of_mod _
  obtain ⟨h1, h2, h3, -, -⟩ := h
  by_cases h10 : c = 10
  · subst h10
    have hcx := hcell (a + 9) (by omega)
    have h9 := ht rfl
    clear hcell hbs ht
    go_enter Tryd.func33, Tryd.ntmps33
    go_wp2_with (first
      | (go_at_call 60; refine G.mono ?_; rintro e w' ⟨rfl, rfl⟩)
      | (go_at_call 61; refine R.mono ?_; rintro e w' ⟨rfl, rfl⟩))
    go_ret3
    exact ⟨ret_3i V.out rfl rfl, rfl⟩
  · clear hcell hbs ht
    go_enter Tryd.func33, Tryd.ntmps33
    go_wp2_with (first
      | (go_at_call 60; refine G.mono ?_; rintro e w' ⟨rfl, rfl⟩)
      | (go_at_call 61; refine R.mono ?_; rintro e w' ⟨rfl, rfl⟩))
    go_ret3
    exact ⟨ret_3i V.out rfl rfl, rfl⟩

theorem rreadU_fin (ao : Option Addr) (len cap : Nat) (bs : Nat → Int) (t : Int) (w : World) (hr : Row w ao len bs) (hl : len ≤ 140737488355328) (h : Fin len bs t) :
    Calls Tryd.prog 33 #[.slice ao len cap, .int .i64 t] w fun e w' => e = .returned (.tuple #[.int .i64 0, .int .i64 0, .int .i64 20]) ∧ w' = w := by
  have G := rgroups_fin ao len cap bs t w hr hl h
  clear hr h
  go_enter Tryd.func33, Tryd.ntmps33
  go_wp2_with (go_at_call 60; refine G.mono ?_; rintro e w' ⟨rfl, rfl⟩)
  go_ret3
  exact ⟨rfl, rfl⟩

theorem rreadU_lng (ao : Option Addr) (len cap : Nat) (bs : Nat → Int) (t : Int) (w : World) (hr : Row w ao len bs) (hl : len ≤ 140737488355328) (h : Long len bs t) :
    Calls Tryd.prog 33 #[.slice ao len cap, .int .i64 t] w fun e w' => e = .returned (.tuple #[.int .i64 0, .int .i64 0, .int .i64 21]) ∧ w' = w := by
  obtain ⟨a, rfl, h1, h2⟩ := h
  rcases hr with hr | ⟨b, off, rfl, hc⟩
  · omega
  · have G := rgroups_long b off len cap a bs w hl hc h1 h2
    clear hc h2
    go_enter Tryd.func33, Tryd.ntmps33
    go_wp2_with (go_at_call 60; refine G.mono ?_; rintro e w' ⟨rfl, rfl⟩)
    go_ret3
    exact ⟨rfl, rfl⟩
theorem rreadS_fin (ao : Option Addr) (len cap : Nat) (bs : Nat → Int) (t : Int) (w : World) (hr : Row w ao len bs) (hl : len ≤ 140737488355328) (h : Fin len bs t) :
    Calls Tryd.prog 34 #[.slice ao len cap, .int .i64 t] w fun e w' => e = .returned (.tuple #[.int .i64 0, .int .i64 0, .int .i64 20]) ∧ w' = w := by
  have G := rgroups_fin ao len cap bs t w hr hl h
  clear hr h
  go_enter Tryd.func34, Tryd.ntmps34
  go_wp2_with (go_at_call 60; refine G.mono ?_; rintro e w' ⟨rfl, rfl⟩)
  go_ret3
  exact ⟨rfl, rfl⟩

theorem rreadS_lng (ao : Option Addr) (len cap : Nat) (bs : Nat → Int) (t : Int) (w : World) (hr : Row w ao len bs) (hl : len ≤ 140737488355328) (h : Long len bs t) :
    Calls Tryd.prog 34 #[.slice ao len cap, .int .i64 t] w fun e w' => e = .returned (.tuple #[.int .i64 0, .int .i64 0, .int .i64 21]) ∧ w' = w := by
  obtain ⟨a, rfl, h1, h2⟩ := h
  rcases hr with hr | ⟨b, off, rfl, hc⟩
  · omega
  · have G := rgroups_long b off len cap a bs w hl hc h1 h2
    clear hc h2
    go_enter Tryd.func34, Tryd.ntmps34
    go_wp2_with (go_at_call 60; refine G.mono ?_; rintro e w' ⟨rfl, rfl⟩)
    go_ret3
    exact ⟨rfl, rfl⟩

theorem rreadU_bad (ao : Option Addr) (len cap a : Nat) (bs : Nat → Int) (w : World) (hr : Row w ao len bs) (hl : len ≤ 140737488355328) (h : Num len bs a 10) (ht : ¬ bs (a + 9) ≤ 1) :
    Calls Tryd.prog 33 #[.slice ao len cap, .int .i64 a] w fun e w' => e = .returned (.tuple #[.int .i64 0, .int .i64 0, .int .i64 21]) ∧ w' = w := by
  rcases hr with hr | ⟨b, off, rfl, hc⟩
  · have := h.2.2.1; omega
  · have G := rgroups_num b off len cap a 10 bs w hl hc h
    have hcx := hc (a + 9) (by have := h.2.2.1; omega)
    have h3 := h.2.2.1
    have h9 : 1 < bs (a + 9) := by omega
    clear hc h ht
    go_enter Tryd.func33, Tryd.ntmps33
    go_wp2_with (go_at_call 60; refine G.mono ?_; rintro e w' ⟨rfl, rfl⟩)
    go_ret3
    exact ⟨rfl, rfl⟩

theorem rreadS_bad (ao : Option Addr) (len cap a : Nat) (bs : Nat → Int) (w : World) (hr : Row w ao len bs) (hl : len ≤ 140737488355328) (h : Num len bs a 10) (ht : ¬ (bs (a + 9) = 0 ∨ bs (a + 9) = 127)) :
    Calls Tryd.prog 34 #[.slice ao len cap, .int .i64 a] w fun e w' => e = .returned (.tuple #[.int .i64 0, .int .i64 0, .int .i64 21]) ∧ w' = w := by
  rcases hr with hr | ⟨b, off, rfl, hc⟩
  · have := h.2.2.1; omega
  · have G := rgroups_num b off len cap a 10 bs w hl hc h
    have hcx := hc (a + 9) (by have := h.2.2.1; omega)
    have h3 := h.2.2.1
    have h9 : (bs (a + 9) != 0) = true := by simp; omega
    have h9' : (bs (a + 9) != 127) = true := by simp; omega
    clear hc h ht
    go_enter Tryd.func34, Tryd.ntmps34
    go_wp2_with (go_at_call 60; refine G.mono ?_; rintro e w' ⟨rfl, rfl⟩)
    go_ret3
    exact ⟨rfl, rfl⟩

theorem rreadS_num (b off len cap a c : Nat) (bs : Nat → Int) (w : World) (hl : len ≤ 140737488355328)
    (hcell : ∀ i, i < len → w.cell? ⟨b, off + i, none⟩ = some (.int .u8 (bs i))) (hbs : ∀ i, 0 ≤ bs i ∧ bs i < 256) (h : Num len bs a c) (ht : c = 10 → bs (a + 9) = 0 ∨ bs (a + 9) = 127) :
    Calls Tryd.prog 34 #[.slice (some ⟨b, off, none⟩) len cap, .int .i64 a] w fun e w' => e = .returned (.tuple #[.int .i64 (sval bs a c), .int .i64 (a + c), .int .i64 0]) ∧ w' = w := by
  have G := rgroups_num b off len cap a c bs w hl hcell h
  have R := rraw_any b off len cap a c bs w hl hcell hbs h.2.1 h.2.2.1
  have hlo := h.2.2.2.2
  obtain ⟨h1, h2, h3, -, -⟩ := h
  by_cases h10 : c = 10
  · subst h10
    have hcx := hcell (a + 9) (by omega)
    have V : Hid (wrap64 (uacc bs a 10 % 18446744073709551616) = sval bs a 10) := by rw [wrap64_of_mod]; exact (sx64 _).symm
    by_cases h0 : bs (a + 9) = 0
    · have h9 : (bs (a + 9) != 0) = false := by simp [h0]
      clear hcell hbs ht h0 hlo
      go_enter Tryd.func34, Tryd.ntmps34
      go_wp2_with (first
        | (go_at_call 60; refine G.mono ?_; rintro e w' ⟨rfl, rfl⟩)
        | (go_at_call 61; refine R.mono ?_; rintro e w' ⟨rfl, rfl⟩))
      go_ret3
      exact ⟨ret_3i V.out rfl rfl, rfl⟩
    · have h1' : bs (a + 9) = 127 := (ht rfl).resolve_left h0
      have h9 : (bs (a + 9) != 0) = true := by simp [h1']
      have h9' : (bs (a + 9) != 127) = false := by simp [h1']
      clear hcell hbs ht h0 h1' hlo
      go_enter Tryd.func34, Tryd.ntmps34
      go_wp2_with (first
        | (go_at_call 60; refine G.mono ?_; rintro e w' ⟨rfl, rfl⟩)
        | (go_at_call 61; refine R.mono ?_; rintro e w' ⟨rfl, rfl⟩))
      go_ret3
      exact ⟨ret_3i V.out rfl rfl, rfl⟩
  · have hcx := hcell (a + c - 1) (by omega)
    have hbb := hbs (a + c - 1)
    have hlo' : bs (a + c - 1) < 128 := by rw [show a + c - 1 = a + (c - 1) from by omega]; exact hlo
    have hS := sext_ref bs a c h1 (by omega) hbb.1 hlo'
    by_cases h64 : 64 ≤ bs (a + c - 1)
    · have hb : (bits .and .u8 (bs (a + c - 1)) 64 != 0) = true := by rw [and64_u8 _ hbb.1 (by omega), if_pos h64]; decide
      have V : Hid _ := hS.1 h64
      clear hcell hbs ht hlo hS hbb hlo'
      go_enter Tryd.func34, Tryd.ntmps34
      go_wp2_with (first
        | (go_at_call 60; refine G.mono ?_; rintro e w' ⟨rfl, rfl⟩)
        | (go_at_call 61; refine R.mono ?_; rintro e w' ⟨rfl, rfl⟩))
      go_ret3
      exact ⟨ret_3i V.out rfl rfl, rfl⟩
    · have hb : (bits .and .u8 (bs (a + c - 1)) 64 != 0) = false := by rw [and64_u8 _ hbb.1 (by omega), if_neg h64]; decide
      have V : Hid _ := hS.2 h64
      clear hcell hbs ht hlo hS hbb hlo'
      go_enter Tryd.func34, Tryd.ntmps34
      go_wp2_with (first
        | (go_at_call 60; refine G.mono ?_; rintro e w' ⟨rfl, rfl⟩)
        | (go_at_call 61; refine R.mono ?_; rintro e w' ⟨rfl, rfl⟩))
      go_ret3
      exact ⟨ret_3i V.out rfl rfl, rfl⟩
end Go.Proofs.YtlbnhekelpdioaaDoor

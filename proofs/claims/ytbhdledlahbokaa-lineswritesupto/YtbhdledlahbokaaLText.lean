/- A text among bytes. -/
import Derived.Test.YtbhdledlahbokaaLSeqs
namespace Go.Proofs.Ytbhdledlahbokaa
open Go.ChangeShapes Go.WideShapes Go.ChangeAt Go.RowKit Go.Conc
set_option linter.unusedVariables false
set_option linter.unusedSimpArgs false

theorem indexN : ∀ (xs : List Int) (k : Nat), (∀ x ∈ xs, 0 ≤ x ∧ x < 256) → k < xs.length → xs.getD k 0 = 0 → (∀ i, i < k → xs.getD i 0 ≠ 0) → Lib.indexByte (Lib.bytesOf xs) ((0 : Int).toNat.toUInt8) = k := by
  intro xs
  induction xs with
  | nil => intro k _ hk; simp at hk
  | cons x l ih =>
    intro k hb hk hz hn
    have hx := hb x (List.mem_cons_self ..)
    show (if (UInt8.ofNat x.toNat == (0 : Int).toNat.toUInt8) = true then (0 : Int) else if (Lib.indexByte (Lib.bytesOf l) ((0 : Int).toNat.toUInt8) == -1) = true then -1 else Lib.indexByte (Lib.bytesOf l) ((0 : Int).toNat.toUInt8) + 1) = k
    cases k with
    | zero =>
      simp at hz
      subst hz
      rfl
    | succ k =>
      have hx0 : x ≠ 0 := by have := hn 0 (by omega); simpa using this
      have hne : ((UInt8.ofNat x.toNat) == (0 : Int).toNat.toUInt8) = false := by
        rw [beq_eq_false_iff_ne]
        intro e
        have := congrArg UInt8.toNat e
        simp at this
        omega
      have h1 := ih k (fun y hy => hb y (List.mem_cons_of_mem _ hy)) (by simpa using hk) (by simpa using hz) (fun i hi => by have := hn (i + 1) (by omega); simpa using this)
      rw [hne, h1]
      have : ((k : Int) == -1) = false := by rw [beq_eq_false_iff_ne]; omega
      rw [this]
      simp
theorem lstB (bs : Nat → Int) (hbs : ∀ i, 0 ≤ bs i ∧ bs i < 256) (m : Nat) : ∀ x ∈ lst bs m, 0 ≤ x ∧ x < 256 := by
  intro x hx
  simp only [lst, List.mem_map, List.mem_range] at hx
  obtain ⟨i, _, rfl⟩ := hx
  exact hbs i
set_option maxRecDepth 100000 in
theorem indexB_any (b off n c : Nat) (bs : Nat → Int) (w : World) (hc : ∀ i, i < n → w.cell? ⟨b, off + i, none⟩ = some (.int .u8 (bs i))) :
    Calls Try.prog 67 #[.slice (some ⟨b, off, none⟩) n c, .int .u8 0] w fun e w' => e = .returned (.int .i64 (Lib.indexByte (Lib.bytesOf (lst bs n)) ((0 : Int).toNat.toUInt8))) ∧ w' = w := by
  have R := Lib.run_indexByteSlice (P := Try.prog) w b off n c (lst bs n) (lst_len bs n) (fun i hi => by rw [hc i hi, lst_at bs n i hi]) 0
  go_enter Try.func67, Try.ntmps67
  go_wp2
  rw [run_callFunc_extern Try.func78 (by kernel_rfl) (by kernel_rfl) (by kernel_rfl) (e := Extern.BytealgIndexByte.indexByte) (by kernel_rfl), R]
  simp only [Result.andThen]
  rw [Oper.upon_value]
  go_wp2
  go_ret
  exact ⟨rfl, rfl⟩
set_option maxRecDepth 100000 in
theorem text_ok (g off len cp a d : Nat) (bs : Nat → Int) (w : World) (hbs : ∀ i, 0 ≤ bs i ∧ bs i < 256) (hsh : len ≤ 1048576) (hfit : len ≤ cp) (hcell : ∀ i, i < len → w.cell? ⟨g, off + i, none⟩ = some (.int .u8 (bs i))) (hin : a + d < len) (hz : bs (a + d) = 0) (hnz : ∀ i, i < d → bs (a + i) ≠ 0) :
    Calls Try.prog 49 #[.slice (some ⟨g, off, none⟩) len cp, .int .i64 (a : Int)] w fun e w' => e = .returned (.tuple #[.string (strOfNums (lst (fun i => bs (a + i)) d)), .int .i64 ((a + d + 1 : Nat) : Int), .int .i64 0]) ∧ w' = w := by
  have I : Hid _ := ⟨indexB_any g (off + a) (len - a) (cp - a) (fun i => bs (a + i)) w (fun i hi => by rw [Nat.add_assoc]; exact hcell (a + i) (by omega))⟩
  rw [indexN (lst (fun i => bs (a + i)) (len - a)) d (lstB _ (fun i => hbs _) _) (by rw [lst_len]; omega) (by rw [lst_at _ _ _ (by omega)]; exact hz) (fun i hi => by rw [lst_at _ _ _ (by omega)]; exact hnz i hi)] at I
  have C := conv_row w (some ⟨g, off + a, none⟩) d (cp - a) (fun i => bs (a + i)) (.inr ⟨g, off + a, rfl, fun i hi => by rw [Nat.add_assoc]; exact hcell (a + i) (by omega)⟩) (by intro h; cases h)
  generalize strOfNums (lst (fun i => bs (a + i)) d) = S at *
  clear hcell hbs hz hnz
  have i0 : (0 : Int) ≤ (a : Int) := by omega
  have i1 : (a : Int) ≤ (len : Int) := by omega
  have i2 : a ≤ len := by omega
  have i3 : a < cp := by omega
  have i4 : (0 : Int) ≤ (d : Int) := by omega
  have i5 : d ≤ cp - a := by omega
  have HWh : Hid (wrap64 ((a : Int) + (d : Int) + 1) = ((a + d + 1 : Nat) : Int)) := ⟨by rw [w64_id (by omega)]; omega⟩
  have hw0 : wrap64 ((a : Int) + (d : Int)) = ((a + d : Nat) : Int) := by rw [w64_id (by omega)]; omega
  clear hsh hin
  go_enter Try.func49, Try.ntmps49
  go_wp2_with (go_at_call 67; (with_reducible refine I.out.mono ?_); rintro e w' ⟨he, hw'⟩; subst he; subst hw')
  go_ret3
  exact ⟨by rw [← HWh.out]; rfl, rfl⟩
end Go.Proofs.Ytbhdledlahbokaa

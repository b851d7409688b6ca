/- The contracts of leb.Text, of At, and of the document's own At. -/
import Derived.Test.YtpdcbokcoaienaaDoorSBytes
import Derived.Test.YtpdcbokcoaienaaDoorSNames
import Derived.Lib.BytesEntry
import Derived.Laws.StandIn
namespace Go.Proofs.YtpdcbokcoaienaaDoor
open Go.ChangeShapes Go.WideShapes Go.ChangeAt Go.RowKit
set_option linter.unusedVariables false
set_option linter.unusedSimpArgs false

/-- The first zero among n bytes, or -1. -/
theorem index_none : ∀ (xs : List Int), (∀ x ∈ xs, 0 ≤ x ∧ x < 256) → (∀ x ∈ xs, x ≠ 0) → Lib.indexByte (Lib.bytesOf xs) ((0 : Int).toNat.toUInt8) = -1 := by
  intro xs
  induction xs with
  | nil => intro _ _; rfl
  | cons x l ih =>
    intro hb hz
    have h1 := ih (fun y hy => hb y (List.mem_cons_of_mem _ hy)) (fun y hy => hz y (List.mem_cons_of_mem _ hy))
    have hx := hb x (List.mem_cons_self ..)
    have hx0 := hz x (List.mem_cons_self ..)
    have hne : ((UInt8.ofNat x.toNat) == (0 : Int).toNat.toUInt8) = false := by
      rw [beq_eq_false_iff_ne]
      intro e
      have := congrArg UInt8.toNat e
      simp at this
      omega
    show (if (UInt8.ofNat x.toNat == (0 : Int).toNat.toUInt8) = true then (0 : Int) else if (Lib.indexByte (Lib.bytesOf l) ((0 : Int).toNat.toUInt8) == -1) = true then -1 else Lib.indexByte (Lib.bytesOf l) ((0 : Int).toNat.toUInt8) + 1) = -1
    rw [hne, h1]; rfl

theorem index_some : ∀ (xs : List Int) (k : Nat), (∀ x ∈ xs, 0 ≤ x ∧ x < 256) → k < xs.length → xs.getD k 0 = 0 → (∀ i, i < k → xs.getD i 0 ≠ 0) → Lib.indexByte (Lib.bytesOf xs) ((0 : Int).toNat.toUInt8) = k := by
  intro xs
  induction xs with
  | nil => intro k _ hk; simp at hk
  | cons x l ih =>
    intro k hb hk hz hn
    have hx := hb x (List.mem_cons_self ..)
    show (if (UInt8.ofNat x.toNat == (0 : Int).toNat.toUInt8) = true then (0 : Int) else if (Lib.indexByte (Lib.bytesOf l) ((0 : Int).toNat.toUInt8) == -1) = true then -1 else Lib.indexByte (Lib.bytesOf l) ((0 : Int).toNat.toUInt8) + 1) = k
    cases k with
    | zero =>
      simp at hz
      subst hz
      rfl
    | succ k =>
      have hx0 : x ≠ 0 := by have := hn 0 (by omega); simpa using this
      have hne : ((UInt8.ofNat x.toNat) == (0 : Int).toNat.toUInt8) = false := by
        rw [beq_eq_false_iff_ne]
        intro e
        have := congrArg UInt8.toNat e
        simp at this
        omega
      have h1 := ih k (fun y hy => hb y (List.mem_cons_of_mem _ hy)) (by simpa using hk) (by simpa using hz) (fun i hi => by have := hn (i + 1) (by omega); simpa using this)
      rw [hne, h1]
      have : ((k : Int) == -1) = false := by rw [beq_eq_false_iff_ne]; omega
      rw [this]
      simp

theorem lst_byte (bs : Nat → Int) (hbs : ∀ i, 0 ≤ bs i ∧ bs i < 256) (m : Nat) : ∀ x ∈ lst bs m, 0 ≤ x ∧ x < 256 := by
  intro x hx
  simp only [lst, List.mem_map, List.mem_range] at hx
  obtain ⟨i, _, rfl⟩ := hx
  exact hbs i

set_option maxRecDepth 100000 in
theorem indexByte_any (b off n c : Nat) (bs : Nat → Int) (w : World) (hc : ∀ i, i < n → w.cell? ⟨b, off + i, none⟩ = some (.int .u8 (bs i))) :
    Calls Tryd.prog 71 #[.slice (some ⟨b, off, none⟩) n c, .int .u8 0] w fun e w' => e = .returned (.int .i64 (Lib.indexByte (Lib.bytesOf (lst bs n)) ((0 : Int).toNat.toUInt8))) ∧ w' = w := by
  have R := Lib.run_indexByteSlice (P := Tryd.prog) w b off n c (lst bs n) (lst_len bs n) (fun i hi => by rw [hc i hi, lst_at bs n i hi]) 0
  go_enter Tryd.func71, Tryd.ntmps71
  go_wp2
  rw [run_callFunc_extern Tryd.func72 (by kernel_rfl) (by kernel_rfl) (by kernel_rfl) (e := Extern.BytealgIndexByte.indexByte) (by kernel_rfl), R]
  simp only [Result.andThen]
  rw [Oper.upon_value]
  go_wp2
  go_ret
  exact ⟨rfl, rfl⟩

/-- No text from place t on. -/
def NoText (len : Nat) (bs : Nat → Int) (t : Int) : Prop := t < 0 ∨ (len : Int) < t ∨ ∃ a : Nat, t = a ∧ a ≤ len ∧ ∀ i, a ≤ i → i < len → bs i ≠ 0
/-- A text from place a on, the zero at place j. -/
def TextAt (len : Nat) (bs : Nat → Int) (a j : Nat) : Prop := a ≤ j ∧ j < len ∧ bs j = 0 ∧ ∀ i, a ≤ i → i < j → bs i ≠ 0

theorem text_sorts (len : Nat) (bs : Nat → Int) (t : Int) : NoText len bs t ∨ ∃ a j : Nat, t = a ∧ TextAt len bs a j := by
  by_cases h0 : t < 0
  · exact .inl (.inl h0)
  · by_cases h1 : (len : Int) < t
    · exact .inl (.inr (.inl h1))
    · obtain ⟨a, rfl⟩ := Int.eq_ofNat_of_zero_le (show 0 ≤ t by omega)
      have key : ∀ n, a + n ≤ len → (∀ i, a ≤ i → i < a + n → bs i ≠ 0) ∨ ∃ j, TextAt len bs a j := by
        intro n
        induction n with
        | zero => intro _; exact .inl (by intro i h1 h2; omega)
        | succ n ih =>
          intro hn
          rcases ih (by omega) with h | h
          · by_cases hz : bs (a + n) = 0
            · exact .inr ⟨a + n, by omega, by omega, hz, h⟩
            · left
              intro i h1 h2
              by_cases e : i = a + n
              · subst e; exact hz
              · exact h i h1 (by omega)
          · exact .inr h
      rcases key (len - a) (by omega) with h | ⟨j, h⟩
      · exact .inl (.inr (.inr ⟨a, rfl, by omega, fun i h1 h2 => h i h1 (by omega)⟩))
      · exact .inr ⟨a, j, rfl, h⟩

/-- The text's bytes, as a string. -/
def txt (bs : Nat → Int) (a j : Nat) : ByteArray := strOfNums (lst (fun i => bs (a + i)) (j - a))


set_option maxRecDepth 10000 in
theorem text_no (b off len cap a : Nat) (bs : Nat → Int) (w : World) (hl : len ≤ 140737488355328) (hbs : ∀ i, 0 ≤ bs i ∧ bs i < 256) (hcap : len ≤ cap) (hcp : cap ≤ 9223372036854775807)
    (hcell : ∀ i, i < len → w.cell? ⟨b, off + i, none⟩ = some (.int .u8 (bs i))) (ha : a < len) (hz : ∀ i, a ≤ i → i < len → bs i ≠ 0) :
    Calls Tryd.prog 68 #[.slice (some ⟨b, off, none⟩) len cap, .int .i64 a] w fun e w' => e = .returned (.tuple #[.string ByteArray.empty, .int .i64 0, .int .i64 20]) ∧ w' = w := by
  have I := indexByte_any b (off + a) (len - a) (cap - a) (fun i => bs (a + i)) w (fun i hi => by rw [Nat.add_assoc]; exact hcell (a + i) (by omega))
  rw [index_none (lst (fun i => bs (a + i)) (len - a)) (lst_byte _ (fun i => hbs _) _) (by
    intro x hx
    simp only [lst, List.mem_map, List.mem_range] at hx
    obtain ⟨i, hi, rfl⟩ := hx
    exact hz (a + i) (by omega) (by omega))] at I
  have hac : a < cap := by omega
  clear hcell hbs hz
  go_enter Tryd.func68, Tryd.ntmps68
  go_wp2_with (go_at_call 71; refine I.mono ?_; rintro e w' ⟨rfl, rfl⟩)
  go_ret3
  exact ⟨rfl, rfl⟩

set_option maxRecDepth 10000 in
theorem text_at (b off len cap a j : Nat) (bs : Nat → Int) (w : World) (hl : len ≤ 140737488355328) (hbs : ∀ i, 0 ≤ bs i ∧ bs i < 256) (hcap : len ≤ cap) (hcp : cap ≤ 9223372036854775807)
    (hcell : ∀ i, i < len → w.cell? ⟨b, off + i, none⟩ = some (.int .u8 (bs i))) (h : TextAt len bs a j) :
    Calls Tryd.prog 68 #[.slice (some ⟨b, off, none⟩) len cap, .int .i64 a] w fun e w' => e = .returned (.tuple #[.string (txt bs a j), .int .i64 (j + 1), .int .i64 0]) ∧ w' = w := by
  obtain ⟨h1, h2, h3, h4⟩ := h
  obtain ⟨d, rfl⟩ : ∃ d, j = a + d := ⟨j - a, by omega⟩
  have I := indexByte_any b (off + a) (len - a) (cap - a) (fun i => bs (a + i)) w (fun i hi => by rw [Nat.add_assoc]; exact hcell (a + i) (by omega))
  rw [index_some (lst (fun i => bs (a + i)) (len - a)) d (lst_byte _ (fun i => hbs _) _) (by rw [lst_len]; omega) (by rw [lst_at _ _ _ (by omega)]; exact h3) (fun i hi => by rw [lst_at _ _ _ (by omega)]; exact h4 (a + i) (by omega) (by omega))] at I
  have C := conv_row w (some ⟨b, off + a, none⟩) d (cap - a) (fun i => bs (a + i)) (.inr ⟨b, off + a, rfl, fun i hi => by rw [Nat.add_assoc]; exact hcell (a + i) (by omega)⟩) (by intro h; cases h)
  have T : txt bs a (a + d) = strOfNums (lst (fun i => bs (a + i)) d) := by unfold txt; rw [show a + d - a = d from by omega]
  rw [T]
  have hac : a < cap := by omega
  clear hcell hbs h3 h4 T
  go_enter Tryd.func68, Tryd.ntmps68
  go_wp2_with (go_at_call 71; refine I.mono ?_; rintro e w' ⟨rfl, hw'⟩; subst hw')
  go_ret3
  exact ⟨rfl, rfl⟩

theorem txt_size (bs : Nat → Int) (a j : Nat) : (txt bs a j).size = j - a := by simp [txt, strOfNums_size, lst]

theorem at_out (ao : Option Addr) (len cap : Nat) (t : Int) (w : World) (hl : len ≤ 140737488355328) (h : t < 0 ∨ (len : Int) ≤ t) :
    Calls Tryd.prog 64 #[.slice ao len cap, .int .i64 t] w fun e w' => e = .returned (.tuple #[.string ByteArray.empty, .int .i64 11]) ∧ w' = w := by
  by_cases h0 : t < 0
  · clear h
    go_enter Tryd.func64, Tryd.ntmps64
    go_wp2
    go_ret2
    exact ⟨rfl, rfl⟩
  · have h1 : (len : Int) ≤ t := by omega
    clear h
    go_enter Tryd.func64, Tryd.ntmps64
    go_wp2
    go_ret2
    exact ⟨rfl, rfl⟩

set_option maxRecDepth 10000 in
theorem at_no (b off len cap a : Nat) (bs : Nat → Int) (w : World) (hl : len ≤ 140737488355328) (hbs : ∀ i, 0 ≤ bs i ∧ bs i < 256) (hcap : len ≤ cap) (hcp : cap ≤ 9223372036854775807)
    (hcell : ∀ i, i < len → w.cell? ⟨b, off + i, none⟩ = some (.int .u8 (bs i))) (ha : a < len) (hz : ∀ i, a ≤ i → i < len → bs i ≠ 0) :
    Calls Tryd.prog 64 #[.slice (some ⟨b, off, none⟩) len cap, .int .i64 a] w fun e w' => e = .returned (.tuple #[.string ByteArray.empty, .int .i64 20]) ∧ w' = w := by
  have C := text_no b off len cap a bs w hl hbs hcap hcp hcell ha hz
  have HC : Hid _ := ⟨C⟩
  clear C hcell hz hbs
  go_enter Tryd.func64, Tryd.ntmps64
  go_wp2_with (go_at_call 68; refine HC.out.mono ?_; rintro e w' ⟨rfl, hw'⟩; subst w')
  go_ret2
  exact ⟨rfl, rfl⟩

set_option maxRecDepth 10000 in
theorem at_at (b off len cap a j : Nat) (bs : Nat → Int) (w : World) (hl : len ≤ 140737488355328) (hbs : ∀ i, 0 ≤ bs i ∧ bs i < 256) (hcap : len ≤ cap) (hcp : cap ≤ 9223372036854775807)
    (hcell : ∀ i, i < len → w.cell? ⟨b, off + i, none⟩ = some (.int .u8 (bs i))) (h : TextAt len bs a j) (hj : j - a ≤ 255) :
    Calls Tryd.prog 64 #[.slice (some ⟨b, off, none⟩) len cap, .int .i64 a] w fun e w' => e = .returned (.tuple #[.string (txt bs a j), .int .i64 0]) ∧ w' = w := by
  have C := text_at b off len cap a j bs w hl hbs hcap hcp hcell h
  have L := isTooLong_any (txt bs a j) w
  have hb : longB (txt bs a j) = false := by unfold longB; rw [txt_size]; simp; omega
  rw [hb] at L
  have HC : Hid _ := ⟨C⟩
  have HL : Hid _ := ⟨L⟩
  have ha : a < len := by have := h.1; have := h.2.1; omega
  clear C L hb hcell h hbs hj
  go_enter Tryd.func64, Tryd.ntmps64
  go_wp2_with (first
    | (go_at_call 68; refine HC.out.mono ?_; rintro e w' ⟨rfl, hw'⟩; subst w')
    | (go_at_call 39; refine HL.out.mono ?_; rintro e w' ⟨rfl, hw'⟩; subst w'))
  go_ret2
  exact ⟨rfl, rfl⟩

set_option maxRecDepth 10000 in
theorem at_long (b off len cap a j : Nat) (bs : Nat → Int) (w : World) (hl : len ≤ 140737488355328) (hbs : ∀ i, 0 ≤ bs i ∧ bs i < 256) (hcap : len ≤ cap) (hcp : cap ≤ 9223372036854775807)
    (hcell : ∀ i, i < len → w.cell? ⟨b, off + i, none⟩ = some (.int .u8 (bs i))) (h : TextAt len bs a j) (hj : 255 < j - a) :
    Calls Tryd.prog 64 #[.slice (some ⟨b, off, none⟩) len cap, .int .i64 a] w fun e w' => e = .returned (.tuple #[.string ByteArray.empty, .int .i64 6]) ∧ w' = w := by
  have C := text_at b off len cap a j bs w hl hbs hcap hcp hcell h
  have L := isTooLong_any (txt bs a j) w
  have hb : longB (txt bs a j) = true := by unfold longB; rw [txt_size]; simp; omega
  rw [hb] at L
  have HC : Hid _ := ⟨C⟩
  have HL : Hid _ := ⟨L⟩
  have ha : a < len := by have := h.1; have := h.2.1; omega
  clear C L hb hcell h hbs hj
  go_enter Tryd.func64, Tryd.ntmps64
  go_wp2_with (first
    | (go_at_call 68; refine HC.out.mono ?_; rintro e w' ⟨rfl, hw'⟩; subst w')
    | (go_at_call 39; refine HL.out.mono ?_; rintro e w' ⟨rfl, hw'⟩; subst w'))
  go_ret2
  exact ⟨rfl, rfl⟩
end Go.Proofs.YtpdcbokcoaienaaDoor

/- The contracts of Text, and of the document's own Text. -/
import Derived.Test.YtlecnehahmdlaaaLent
import Derived.Lib.BytesEntry
import Derived.Laws.StandIn
namespace Go.Proofs.Ytlecnehahmdlaaa
open Go.ChangeShapes Go.WideShapes Go.ChangeAt Go.RowKit
set_option linter.unusedVariables false

/-- The first zero among n bytes, or -1. -/
theorem index_none : ∀ (xs : List Int), (∀ x ∈ xs, 0 ≤ x ∧ x < 256) → (∀ x ∈ xs, x ≠ 0) → Lib.indexByte (Lib.bytesOf xs) ((0 : Int).toNat.toUInt8) = -1 := by
  intro xs
  induction xs with
  | nil => intro _ _; rfl
  | cons x l ih =>
    intro hb hz
    have h1 := ih (fun y hy => hb y (List.mem_cons_of_mem _ hy)) (fun y hy => hz y (List.mem_cons_of_mem _ hy))
    have hx := hb x (List.mem_cons_self ..)
    have hx0 := hz x (List.mem_cons_self ..)
    have hne : ((UInt8.ofNat x.toNat) == (0 : Int).toNat.toUInt8) = false := by
      rw [beq_eq_false_iff_ne]
      intro e
      have := congrArg UInt8.toNat e
      simp at this
      omega
    show (if (UInt8.ofNat x.toNat == (0 : Int).toNat.toUInt8) = true then (0 : Int) else if (Lib.indexByte (Lib.bytesOf l) ((0 : Int).toNat.toUInt8) == -1) = true then -1 else Lib.indexByte (Lib.bytesOf l) ((0 : Int).toNat.toUInt8) + 1) = -1
    rw [hne, h1]; rfl

theorem index_some : ∀ (xs : List Int) (k : Nat), (∀ x ∈ xs, 0 ≤ x ∧ x < 256) → k < xs.length → xs.getD k 0 = 0 → (∀ i, i < k → xs.getD i 0 ≠ 0) → Lib.indexByte (Lib.bytesOf xs) ((0 : Int).toNat.toUInt8) = k := by
  intro xs
  induction xs with
  | nil => intro k _ hk; simp at hk
  | cons x l ih =>
    intro k hb hk hz hn
    have hx := hb x (List.mem_cons_self ..)
    show (if (UInt8.ofNat x.toNat == (0 : Int).toNat.toUInt8) = true then (0 : Int) else if (Lib.indexByte (Lib.bytesOf l) ((0 : Int).toNat.toUInt8) == -1) = true then -1 else Lib.indexByte (Lib.bytesOf l) ((0 : Int).toNat.toUInt8) + 1) = k
    cases k with
    | zero =>
      simp at hz
      subst hz
      rfl
    | succ k =>
      have hx0 : x ≠ 0 := by have := hn 0 (by omega); simpa using this
      have hne : ((UInt8.ofNat x.toNat) == (0 : Int).toNat.toUInt8) = false := by
        rw [beq_eq_false_iff_ne]
        intro e
        have := congrArg UInt8.toNat e
        simp at this
        omega
      have h1 := ih k (fun y hy => hb y (List.mem_cons_of_mem _ hy)) (by simpa using hk) (by simpa using hz) (fun i hi => by have := hn (i + 1) (by omega); simpa using this)
      rw [hne, h1]
      have : ((k : Int) == -1) = false := by rw [beq_eq_false_iff_ne]; omega
      rw [this]
      simp

theorem lst_byte (bs : Nat → Int) (hbs : ∀ i, 0 ≤ bs i ∧ bs i < 256) (m : Nat) : ∀ x ∈ lst bs m, 0 ≤ x ∧ x < 256 := by
  intro x hx
  simp only [lst, List.mem_map, List.mem_range] at hx
  obtain ⟨i, _, rfl⟩ := hx
  exact hbs i

set_option maxRecDepth 100000 in
theorem indexByte_any (b off n c : Nat) (bs : Nat → Int) (w : World) (hc : ∀ i, i < n → w.cell? ⟨b, off + i, none⟩ = some (.int .u8 (bs i))) :
    Calls Try.prog 45 #[.slice (some ⟨b, off, none⟩) n c, .int .u8 0] w fun e w' => e = .returned (.int .i64 (Lib.indexByte (Lib.bytesOf (lst bs n)) ((0 : Int).toNat.toUInt8))) ∧ w' = w := by
  have R := Lib.run_indexByteSlice (P := Try.prog) w b off n c (lst bs n) (lst_len bs n) (fun i hi => by rw [hc i hi, lst_at bs n i hi]) 0
  go_enter Try.func45, Try.ntmps45
  go_wp2
  rw [run_callFunc_extern Try.func54 (by kernel_rfl) (by kernel_rfl) (by kernel_rfl) (e := Extern.BytealgIndexByte.indexByte) (by kernel_rfl), R]
  simp only [Result.andThen]
  rw [Oper.upon_value]
  go_wp2
  go_ret
  exact ⟨rfl, rfl⟩

/-- No text from place t on. -/
def NoText (len : Nat) (bs : Nat → Int) (t : Int) : Prop := t < 0 ∨ (len : Int) < t ∨ ∃ a : Nat, t = a ∧ a ≤ len ∧ ∀ i, a ≤ i → i < len → bs i ≠ 0
/-- A text from place a on, the zero at place j. -/
def TextAt (len : Nat) (bs : Nat → Int) (a j : Nat) : Prop := a ≤ j ∧ j < len ∧ bs j = 0 ∧ ∀ i, a ≤ i → i < j → bs i ≠ 0

theorem text_sorts (len : Nat) (bs : Nat → Int) (t : Int) : NoText len bs t ∨ ∃ a j : Nat, t = a ∧ TextAt len bs a j := by
  by_cases h0 : t < 0
  · exact .inl (.inl h0)
  · by_cases h1 : (len : Int) < t
    · exact .inl (.inr (.inl h1))
    · obtain ⟨a, rfl⟩ := Int.eq_ofNat_of_zero_le (show 0 ≤ t by omega)
      have key : ∀ n, a + n ≤ len → (∀ i, a ≤ i → i < a + n → bs i ≠ 0) ∨ ∃ j, TextAt len bs a j := by
        intro n
        induction n with
        | zero => intro _; exact .inl (by intro i h1 h2; omega)
        | succ n ih =>
          intro hn
          rcases ih (by omega) with h | h
          · by_cases hz : bs (a + n) = 0
            · exact .inr ⟨a + n, by omega, by omega, hz, h⟩
            · left
              intro i h1 h2
              by_cases e : i = a + n
              · subst e; exact hz
              · exact h i h1 (by omega)
          · exact .inr h
      rcases key (len - a) (by omega) with h | ⟨j, h⟩
      · exact .inl (.inr (.inr ⟨a, rfl, by omega, fun i h1 h2 => h i h1 (by omega)⟩))
      · exact .inr ⟨a, j, rfl, h⟩

/-- The text's bytes, as a string. -/
def txt (bs : Nat → Int) (a j : Nat) : ByteArray := strOfNums (lst (fun i => bs (a + i)) (j - a))

theorem text_no (g len cap : Nat) (bs : Nat → Int) (t : Int) (w : World) (hl : len ≤ 140737488355328) (hbs : ∀ i, 0 ≤ bs i ∧ bs i < 256) (hcap : len < cap) (hcp : cap ≤ 9223372036854775807)
    (hcell : ∀ i, i < len → w.cell? ⟨g, i, none⟩ = some (.int .u8 (bs i))) (h : NoText len bs t) :
    Calls Try.prog 23 #[.slice (some ⟨g, 0, none⟩) len cap, .int .i64 t] w fun e w' => e = .returned (.tuple #[.string ByteArray.empty, .int .i64 0, .int .i64 20]) ∧ w' = w := by
  rcases h with h | h | ⟨a, rfl, ha, hz⟩
  · go_enter Try.func23, Try.ntmps23
    go_wp2
    go_ret3
    exact ⟨rfl, rfl⟩
  · have h0 : ¬ t < 0 := by omega
    go_enter Try.func23, Try.ntmps23
    go_wp2
    go_ret3
    exact ⟨rfl, rfl⟩
  · have I := indexByte_any g a (len - a) (cap - a) (fun i => bs (a + i)) w (fun i hi => hcell (a + i) (by omega))
    rw [index_none (lst (fun i => bs (a + i)) (len - a)) (lst_byte _ (fun i => hbs _) _) (by
      intro x hx
      simp only [lst, List.mem_map, List.mem_range] at hx
      obtain ⟨i, hi, rfl⟩ := hx
      exact hz (a + i) (by omega) (by omega))] at I
    have hac : a < cap := by omega
    clear hcell hbs hz
    go_enter Try.func23, Try.ntmps23
    go_wp2_with (go_at_call 45; refine I.mono ?_; rintro e w' ⟨rfl, rfl⟩)
    go_ret3
    exact ⟨rfl, rfl⟩

theorem text_at (g len cap a j : Nat) (bs : Nat → Int) (w : World) (hl : len ≤ 140737488355328) (hbs : ∀ i, 0 ≤ bs i ∧ bs i < 256) (hcap : len < cap) (hcp : cap ≤ 9223372036854775807)
    (hcell : ∀ i, i < len → w.cell? ⟨g, i, none⟩ = some (.int .u8 (bs i))) (h : TextAt len bs a j) :
    Calls Try.prog 23 #[.slice (some ⟨g, 0, none⟩) len cap, .int .i64 a] w fun e w' => e = .returned (.tuple #[.string (txt bs a j), .int .i64 (j + 1), .int .i64 0]) ∧ w' = w := by
  obtain ⟨h1, h2, h3, h4⟩ := h
  obtain ⟨d, rfl⟩ : ∃ d, j = a + d := ⟨j - a, by omega⟩
  have I := indexByte_any g a (len - a) (cap - a) (fun i => bs (a + i)) w (fun i hi => hcell (a + i) (by omega))
  rw [index_some (lst (fun i => bs (a + i)) (len - a)) d (lst_byte _ (fun i => hbs _) _) (by rw [lst_len]; omega) (by rw [lst_at _ _ _ (by omega)]; exact h3) (fun i hi => by rw [lst_at _ _ _ (by omega)]; exact h4 (a + i) (by omega) (by omega))] at I
  have C := conv_row w (some ⟨g, a, none⟩) d (cap - a) (fun i => bs (a + i)) (.inr ⟨g, a, rfl, fun i hi => hcell (a + i) (by omega)⟩) (by intro h; cases h)
  have T : txt bs a (a + d) = strOfNums (lst (fun i => bs (a + i)) d) := by unfold txt; rw [show a + d - a = d from by omega]
  rw [T]
  have hac : a < cap := by omega
  clear hcell hbs h3 h4 T
  go_enter Try.func23, Try.ntmps23
  go_wp2_with (go_at_call 45; refine I.mono ?_; rintro e w' ⟨rfl, hw'⟩; subst hw')
  go_ret3
  exact ⟨rfl, rfl⟩

theorem rtext_out (ao : Option Addr) (len cap : Nat) (t : Int) (w : World) (hl : len ≤ 140737488355328) (h : t < 0 ∨ (len : Int) < t) :
    Calls Try.prog 26 #[.slice ao len cap, .int .i64 t] w fun e w' => e = .returned (.tuple #[.string ByteArray.empty, .int .i64 0, .int .i64 20]) ∧ w' = w := by
  by_cases h0 : t < 0
  · clear h
    go_enter Try.func26, Try.ntmps26
    go_wp2
    go_ret3
    exact ⟨rfl, rfl⟩
  · have h1 : (len : Int) < t := by omega
    clear h
    go_enter Try.func26, Try.ntmps26
    go_wp2
    go_ret3
    exact ⟨rfl, rfl⟩

theorem rtext_nil (ao : Option Addr) (cap : Nat) (w : World) :
    Calls Try.prog 26 #[.slice ao 0 cap, .int .i64 0] w fun e w' => e = .returned (.tuple #[.string ByteArray.empty, .int .i64 0, .int .i64 20]) ∧ w' = w := by
  go_enter Try.func26, Try.ntmps26
  go_wp2
  go_loop [7] (fun i => i = .int .i64 0) (fun i => 0)
  case atStart => rfl
  case round =>
    subst hrel
    go_wp2
    go_ret3
    exact ⟨rfl, rfl⟩

theorem rtext_end (b off len cap a : Nat) (bs : Nat → Int) (w : World) (hl : len ≤ 140737488355328) (ha : a ≤ len)
    (hcell : ∀ i, i < len → w.cell? ⟨b, off + i, none⟩ = some (.int .u8 (bs i))) (hz : ∀ i, a ≤ i → i < len → bs i ≠ 0) :
    Calls Try.prog 26 #[.slice (some ⟨b, off, none⟩) len cap, .int .i64 a] w fun e w' => e = .returned (.tuple #[.string ByteArray.empty, .int .i64 0, .int .i64 20]) ∧ w' = w := by
  have HC : Hid (∀ i, i < len → w.cell? ⟨b, off + i, none⟩ = some (.int .u8 (bs i))) := hcell
  have HZ : Hid (∀ i, a ≤ i → i < len → bs i ≠ 0) := hz
  clear hcell hz
  go_enter Try.func26, Try.ntmps26
  go_wp2
  go_loop [7] (fun i => ∃ j : Nat, a ≤ j ∧ j ≤ len ∧ i = .int .i64 j) (fun i => len - (intOf i).toNat)
  case atStart => exact ⟨a, by omega, by omega, rfl⟩
  case round =>
    obtain ⟨j, hj0, hj1, rfl⟩ := hrel
    by_cases hlt : j < len
    · have hcx := HC.out j hlt
      have hne : (bs j == 0) = false := by simpa using HZ.out j hj0 hlt
      go_wp2
      go_round
      case rel => exact ⟨j + 1, by omega, by omega, by go_num⟩
      case measure => simp [intOf]; omega
    · go_wp2
      go_ret3
      exact ⟨rfl, rfl⟩

theorem rtext_at (b off len cap a j : Nat) (bs : Nat → Int) (w : World) (hl : len ≤ 140737488355328) (hcap : len ≤ cap) (hcp : cap ≤ 9223372036854775807)
    (hcell : ∀ i, i < len → w.cell? ⟨b, off + i, none⟩ = some (.int .u8 (bs i))) (h : TextAt len bs a j) :
    Calls Try.prog 26 #[.slice (some ⟨b, off, none⟩) len cap, .int .i64 a] w fun e w' => e = .returned (.tuple #[.string (txt bs a j), .int .i64 (j + 1), .int .i64 0]) ∧ w' = w := by
  obtain ⟨h1, h2, h3, h4⟩ := h
  have C := conv_row w (some ⟨b, off + a, none⟩) (j - a) (cap - a) (fun i => bs (a + i)) (.inr ⟨b, off + a, rfl, fun i hi => by rw [Nat.add_assoc]; exact hcell (a + i) (by omega)⟩) (by intro h; cases h)
  have HC : Hid (∀ i, i < len → w.cell? ⟨b, off + i, none⟩ = some (.int .u8 (bs i))) := hcell
  have HZ : Hid (∀ i, a ≤ i → i < j → bs i ≠ 0) := h4
  have H0 : Hid (bs j = 0) := h3
  unfold txt
  have hac : a < cap := by omega
  clear hcell h3 h4
  go_enter Try.func26, Try.ntmps26
  go_wp2
  go_loop [7] (fun i => ∃ m : Nat, a ≤ m ∧ m ≤ j ∧ i = .int .i64 m) (fun i => len - (intOf i).toNat)
  case atStart => exact ⟨a, by omega, by omega, rfl⟩
  case round =>
    obtain ⟨m, hj0, hj1, rfl⟩ := hrel
    have hcx := HC.out m (by omega)
    by_cases hlt : m < j
    · have hne : (bs m == 0) = false := by simpa using HZ.out m hj0 hlt
      go_wp2
      go_round
      case rel => exact ⟨m + 1, by omega, by omega, by go_num⟩
      case measure => simp [intOf]; omega
    · obtain rfl : m = j := by omega
      have hne : (bs m == 0) = true := by simpa using H0.out
      go_wp2
      go_ret3
      exact ⟨rfl, rfl⟩

/-- Text of any bytes at any place: what both answer. -/
theorem text_is (len : Nat) (bs : Nat → Int) (t : Int) (hbs : ∀ i, 0 ≤ bs i ∧ bs i < 256) (hl : len ≤ 140737488351232) :
    ∃ (s : ByteArray) (i g : Int), (∀ gb cap w, LentRow w gb len bs → len + 2 ≤ cap → cap ≤ 9223372036854775807 → Calls Try.prog 23 #[.slice (some ⟨gb, 0, none⟩) len cap, .int .i64 t] w fun e w' => e = .returned (.tuple #[.string s, .int .i64 i, .int .i64 g]) ∧ w' = w) ∧
      (∀ ao cap w, Row w ao len bs → len ≤ cap → cap ≤ 9223372036854775807 → Calls Try.prog 26 #[.slice ao len cap, .int .i64 t] w fun e w' => e = .returned (.tuple #[.string s, .int .i64 i, .int .i64 g]) ∧ w' = w) := by
  rcases text_sorts len bs t with h | ⟨a, j, rfl, h⟩
  · refine ⟨ByteArray.empty, 0, 20, fun gb cap w hr hc hd => text_no gb len cap bs t w (by omega) hbs (by omega) hd hr.1 h, fun ao cap w hr hc hd => ?_⟩
    rcases h with h | h | ⟨a, rfl, ha, hz⟩
    · exact rtext_out ao len cap t w (by omega) (.inl h)
    · exact rtext_out ao len cap t w (by omega) (.inr h)
    · rcases hr with hr | ⟨b, off, rfl, hcell⟩
      · subst hr
        obtain rfl : a = 0 := by omega
        exact rtext_nil ao cap w
      · exact rtext_end b off len cap a bs w (by omega) ha hcell hz
  · refine ⟨_, _, 0, fun gb cap w hr hc hd => text_at gb len cap a j bs w (by omega) hbs (by omega) hd hr.1 h, fun ao cap w hr hc hd => ?_⟩
    rcases hr with hr | ⟨b, off, rfl, hcell⟩
    · have := h.2.1; omega
    · exact rtext_at b off len cap a j bs w (by omega) hc hd hcell h
end Go.Proofs.Ytlecnehahmdlaaa

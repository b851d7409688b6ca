/- The program's cutting, plainly: the rest of a line at a place of a text; kinds of bytes. -/
import Derived.Test.YtljmbgflcidokaaGreatDoorLxLine
namespace Go.Proofs.YtljmbgflcidokaaGreatDoor
open Go.ChangeShapes Go.WideShapes Go.ChangeAt Go.RowKit
set_option linter.unusedVariables false
set_option linter.unusedSimpArgs false

/-- The rest of the line, from place a on. -/
def Ln (s : ByteArray) (a : Nat) : List UInt8 := ((lo s).drop a).takeWhile (fun c => !(c == 10))
/-- The byte that stands there; a line feed behind the last one. -/
def hdZ (l : List UInt8) : Int := match l with | [] => 10 | c :: _ => zOf c

theorem Ln_end {s : ByteArray} {a : Nat} (h : ¬ a < s.size) : Ln s a = [] := by
  unfold Ln
  rw [List.drop_of_length_le (by rw [lo_len]; omega)]; rfl
theorem Ln_lf {s : ByteArray} {a : Nat} (h : a < s.size) (h10 : s[a] = 10) : Ln s a = [] := by
  unfold Ln
  rw [lo_drop s a h, List.takeWhile_cons, h10]; rfl
theorem Ln_ne {s : ByteArray} {a : Nat} (h : a < s.size) (h10 : ¬ s[a] = 10) : Ln s a = s[a] :: Ln s (a + 1) := by
  unfold Ln
  rw [lo_drop s a h, List.takeWhile_cons, if_pos (by simpa using h10)]
theorem hd_at {s : ByteArray} {a : Nat} (h : a < s.size) : hdZ (Ln s a) = (s[a].toNat : Int) := by
  by_cases h10 : s[a] = 10
  · rw [Ln_lf h h10, h10]; rfl
  · rw [Ln_ne h h10]; rfl
theorem hd_end {s : ByteArray} {a : Nat} (h : ¬ a < s.size) : hdZ (Ln s a) = 10 := by rw [Ln_end h]; rfl
theorem Ln_cons {s : ByteArray} {a : Nat} {c : UInt8} {r : List UInt8} (h : Ln s a = c :: r) : a < s.size ∧ ¬ c = 10 ∧ Ln s (a + 1) = r := by
  by_cases ha : a < s.size
  · by_cases h10 : s[a] = 10
    · rw [Ln_lf ha h10] at h; cases h
    · rw [Ln_ne ha h10] at h
      injection h with h1 h2
      exact ⟨ha, by rw [← h1]; exact h10, h2⟩
  · rw [Ln_end ha] at h; cases h
theorem Ln_drop (s : ByteArray) : ∀ (n a : Nat), n ≤ (Ln s a).length → Ln s (a + n) = (Ln s a).drop n
  | 0, a, _ => rfl
  | n + 1, a, h => by
    cases hl : Ln s a with
    | nil => rw [hl] at h; simp at h
    | cons c r =>
      obtain ⟨_, _, h3⟩ := Ln_cons hl
      rw [hl] at h
      have := Ln_drop s n (a + 1) (by rw [h3]; simpa using h)
      rw [show a + (n + 1) = a + 1 + n by omega, this, h3]
      rfl
theorem Ln_top (s : ByteArray) : ∀ (n a : Nat), n ≤ (Ln s a).length → a ≤ s.size → a + n ≤ s.size
  | 0, a, _, ha => ha
  | n + 1, a, h, ha => by
    cases hl : Ln s a with
    | nil => rw [hl] at h; simp at h
    | cons c r =>
      obtain ⟨h1, _, h3⟩ := Ln_cons hl
      rw [hl] at h
      have := Ln_top s n (a + 1) (by rw [h3]; simpa using h) (by omega)
      omega
theorem Ln_len (s : ByteArray) (a : Nat) : (Ln s a).length ≤ s.size := by
  have h1 : (Ln s a).length ≤ ((lo s).drop a).length := (List.takeWhile_sublist _).length_le
  rw [List.length_drop, lo_len] at h1
  omega
theorem takeWhile_take {p : UInt8 → Bool} : ∀ (l : List UInt8) (n : Nat), n ≤ (l.takeWhile p).length → l.take n = (l.takeWhile p).take n
  | [], n, _ => rfl
  | c :: r, n, h => by
    cases hc : p c
    · simp [List.takeWhile_cons, hc] at h ⊢; subst h; simp
    · simp only [List.takeWhile_cons, hc, if_true, List.length_cons] at h ⊢
      cases n with
      | zero => rfl
      | succ n => simp only [List.take_succ_cons]; rw [takeWhile_take (p := p) r n (by omega)]
theorem Ln_sub {s : ByteArray} {a n : Nat} (h : n ≤ (Ln s a).length) : s.extract a (a + n) = St ((Ln s a).take n) := by
  rw [sub_St, show a + n - a = n by omega]
  congr 1
  exact takeWhile_take _ n h
theorem hd_byte (l : List UInt8) : 0 ≤ hdZ l ∧ hdZ l < 256 := by
  cases l with
  | nil => exact ⟨by decide, by decide⟩
  | cons c r => have := c.toNat_lt; exact ⟨by show (0 : Int) ≤ (c.toNat : Int); omega, by show (c.toNat : Int) < 256; omega⟩

/-! lines -/
theorem lnp_drop : ∀ (l : List UInt8), l ≠ [] → ∀ acc, linesF l acc = (acc ++ l.takeWhile (fun c => !(c == 10))) :: linesM (l.drop ((l.takeWhile (fun c => !(c == 10))).length + 1))
  | [], h, acc => absurd rfl h
  | c :: r, _, acc => by
    by_cases h10 : c = 10
    · subst h10
      show (if (10 : UInt8) = 10 then acc :: linesF r [] else _) = _
      rw [if_pos rfl]
      simp [linesM]
    · show (if c = 10 then acc :: linesF r [] else linesF r (acc ++ [c])) = _
      rw [if_neg h10]
      have hp : (!(c == 10)) = true := by simpa using h10
      simp only [List.takeWhile_cons, hp, if_true, List.length_cons, List.drop_succ_cons]
      cases r with
      | nil =>
        simp [linesF, linesM]
      | cons d r' =>
        rw [lnp_drop (d :: r') (by simp) (acc ++ [c])]
        simp
theorem lines_Ln {s : ByteArray} {a : Nat} (h : a < s.size) : linesM ((lo s).drop a) = Ln s a :: linesM ((lo s).drop (a + (Ln s a).length + 1)) := by
  have hne : (lo s).drop a ≠ [] := by rw [lo_drop s a h]; simp
  have := lnp_drop ((lo s).drop a) hne []
  rw [List.nil_append, List.drop_drop] at this
  unfold linesM at this ⊢
  rw [this]
  rfl
theorem lines_end {s : ByteArray} {a : Nat} (h : ¬ a < s.size) : linesM ((lo s).drop a) = [] := by
  rw [List.drop_of_length_le (by rw [lo_len]; omega)]; rfl

/-! kinds of bytes -/
/-- A byte's kinds, as bits. -/
def kz (n : Nat) : Int :=
  (if n = 32 ∨ n = 9 then 1 else 0) + (if (65 ≤ n ∧ n ≤ 90) ∨ (97 ≤ n ∧ n ≤ 122) then 2 else 0) + (if 48 ≤ n ∧ n ≤ 57 then 4 else 0)
  + (if (48 ≤ n ∧ n ≤ 57) ∨ (65 ≤ n ∧ n ≤ 70) ∨ (97 ≤ n ∧ n ≤ 102) then 8 else 0) + (if n = 95 ∨ n = 46 then 16 else 0) + (if (signs.map (·.toNat)).contains n then 32 else 0)
def kB (K : Nat) (z : Int) : Bool := (bits .and .u8 (kz z.toNat) (K : Int)) != 0
theorem kB_of {K : Nat} {f : UInt8 → Bool} (h : ∀ n : Fin 256, kB K ((n.val : Nat) : Int) = f (UInt8.ofNat n.val)) (c : UInt8) : kB K (zOf c) = f c := by
  have := h ⟨c.toNat, c.toNat_lt⟩
  simpa using this
theorem kB_blank (c : UInt8) : kB 1 (zOf c) = (c == 32 || c == 9) := kB_of (f := fun c => c == 32 || c == 9) (by decide +kernel) c
theorem kB_let (c : UInt8) : kB 2 (zOf c) = isLet c := kB_of (f := isLet) (by decide +kernel) c
theorem kB_dig (c : UInt8) : kB 4 (zOf c) = isDig c := kB_of (f := isDig) (by decide +kernel) c
theorem kB_hex (c : UInt8) : kB 8 (zOf c) = decide (0 ≤ hexZ (zOf c)) := kB_of (f := fun c => decide (0 ≤ hexZ (zOf c))) (by decide +kernel) c
theorem kB_first (c : UInt8) : kB 18 (zOf c) = (isIn c && !isDig c) := kB_of (f := fun c => isIn c && !isDig c) (by decide +kernel) c
theorem kB_in (c : UInt8) : kB 22 (zOf c) = isIn c := kB_of (f := isIn) (by decide +kernel) c
theorem kB_reg (c : UInt8) : kB 6 (zOf c) = (isLet c || isDig c) := kB_of (f := fun c => isLet c || isDig c) (by decide +kernel) c
theorem kB_sign (c : UInt8) : kB 32 (zOf c) = signs.contains c := kB_of (f := fun c => signs.contains c) (by decide +kernel) c
theorem kB_lf (K : Nat) (h : K < 256) : kB K 10 = false := by
  have : ∀ n : Fin 256, kB n.val 10 = false := by decide +kernel
  exact this ⟨K, h⟩
/-- How many bytes of a kind begin a line's rest. -/
def runN (K : Nat) (l : List UInt8) : Nat := (l.takeWhile (fun c => kB K (zOf c))).length
theorem run_le (K : Nat) (l : List UInt8) : runN K l ≤ l.length := (List.takeWhile_sublist _).length_le
theorem run_eq (K : Nat) (f : UInt8 → Bool) (h : ∀ c, kB K (zOf c) = f c) (l : List UInt8) : runN K l = (l.takeWhile f).length := by
  unfold runN
  congr 2
  funext c
  exact h c
theorem run_word (l : List UInt8) : runN 22 l = wordN l := run_eq 22 isIn kB_in l
end Go.Proofs.YtljmbgflcidokaaGreatDoor

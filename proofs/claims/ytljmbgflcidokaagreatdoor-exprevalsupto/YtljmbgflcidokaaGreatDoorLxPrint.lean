/- Tokens as a text, plainly; what was printed is cut as it was. -/
import Derived.Test.YtljmbgflcidokaaGreatDoorLxPure2
namespace Go.Proofs.YtljmbgflcidokaaGreatDoor
open Go.ChangeShapes Go.WideShapes Go.ChangeAt Go.RowKit
set_option linter.unusedVariables false
set_option linter.unusedSimpArgs false

/-- A number's digits, with fuel. -/
def digF : Nat → Nat → List UInt8
  | 0, _ => []
  | f + 1, n => if n < 10 then [UInt8.ofNat (48 + n)] else digF f (n / 10) ++ [UInt8.ofNat (48 + n % 10)]
def digM (n : Nat) : List UInt8 := digF 20 n

/-- A token's text; none: it could not come out of the cutting. -/
def wordM (t : Tok) (w : List UInt8) : Option (List UInt8) :=
  if w = [] ∨ ¬ t.n = 0 then none else match oneM w with | none => none | some (x, m) => if m = w.length ∧ x.k = t.k ∧ x.t = t.t then some w else none
def writM (t : Tok) : Option (List UInt8) :=
  if t.k = 1 ∨ t.k = 4 then wordM t t.t
  else if t.k = 5 then wordM t (37 :: t.t)
  else if t.k = 2 then if t.t = [] then some (digM (t.n % 18446744073709551616).toNat) else none
  else if t.k = 3 then if t.n = 0 then some (quoteM t.t) else none
  else if t.k = 6 then if t.t = [] ∧ t.n = 0 then some [] else none
  else none
/-- What is printed from here on; b: the line has begun. -/
def restT : List Tok → Bool → Option (List UInt8)
  | [], b => some (if b = true then [10] else [])
  | t :: r, b => match writM t with
    | none => none
    | some w => if t.k = 6 then (restT r false).map (10 :: ·) else (restT r true).map (((if b = true then 32 :: w else w)) ++ ·)
/-- What Print answers. -/
def printM (l : List Tok) : Except Int (List UInt8) :=
  match restT l false with | none => .error 100 | some a => if 65536 < a.length then .error 6 else .ok a
/-- What comes back. -/
def wantF : List Tok → Bool → List Tok
  | [], b => if b = true then [⟨6, 0, []⟩] else []
  | t :: r, b => if t.k = 6 then (if b = true then t :: wantF r false else wantF r false) else t :: wantF r true

/-! digits -/
theorem decF_app : ∀ (l : List UInt8) (c : UInt8) (x : Int), decF (l ++ [c]) x = match decF l x with | none => none | some y => decF [c] y
  | [], c, x => rfl
  | d :: l, c, x => by
    show (if isDig d = false then none else if _ < x then none else decF (l ++ [c]) _) = _
    show _ = match (if isDig d = false then none else if _ < x then none else decF l _) with | none => none | some y => decF [c] y
    split
    · rfl
    · split
      · rfl
      · exact decF_app l c _
theorem dig_byte : ∀ n : Fin 10, isDig (UInt8.ofNat (48 + n.val)) = true ∧ zOf (UInt8.ofNat (48 + n.val)) = 48 + (n.val : Int) := by decide
theorem dig_one (n : Nat) (h : n < 10) (y : Int) (hy : 10 * y + n ≤ 18446744073709551615) : decF [UInt8.ofNat (48 + n)] y = some (10 * y + n) := by
  obtain ⟨h1, h2⟩ := dig_byte ⟨n, h⟩
  simp only at h1 h2
  unfold decF
  rw [h1, h2, if_neg (by simp), if_neg (by omega)]
  show some _ = some _
  congr 1
  omega
theorem dig_back : ∀ (f n : Nat), n < 10 ^ f → n ≤ 18446744073709551615 → 1 ≤ f → decF (digF f n) 0 = some (n : Int)
  | 0, n, _, _, h => by omega
  | f + 1, n, hn, hm, _ => by
    unfold digF
    split
    · rename_i h
      have := dig_one n h 0 (by omega)
      rw [this]; simp
    · rename_i h
      have hf : 1 ≤ f := by
        cases f with
        | zero => simp at hn; omega
        | succ f => omega
      rw [decF_app, dig_back f (n / 10) (by rw [Nat.pow_succ] at hn; omega) (by omega) hf]
      simp only
      rw [dig_one (n % 10) (by omega) _ (by omega)]
      congr 1
      omega
theorem dig_all : ∀ (f n : Nat), ∀ c ∈ digF f n, isDig c = true
  | 0, n, c, h => by cases h
  | f + 1, n, c, h => by
    unfold digF at h
    split at h
    · rename_i hn
      rw [List.mem_singleton.1 h]
      exact (dig_byte ⟨n, hn⟩).1
    · rcases List.mem_append.1 h with h | h
      · exact dig_all f _ c h
      · rw [List.mem_singleton.1 h]
        exact (dig_byte ⟨n % 10, by omega⟩).1
theorem dig_len : ∀ (f n : Nat), (digF f n).length ≤ f
  | 0, n => by simp [digF]
  | f + 1, n => by
    unfold digF
    split
    · simp
    · have := dig_len f (n / 10)
      simp; omega
theorem dig_ne : ∀ (f n : Nat), 1 ≤ f → digF f n ≠ []
  | 0, n, h => by omega
  | f + 1, n, _ => by
    unfold digF
    split <;> simp
theorem dig_head : ∀ (f n : Nat), n < 10 ^ f → 0 < n → ∃ c r, digF f n = c :: r ∧ ¬ c = 48
  | 0, n, h, h0 => by simp at h; omega
  | f + 1, n, h, h0 => by
    unfold digF
    split
    · rename_i hn
      refine ⟨_, [], rfl, fun e => ?_⟩
      have := (dig_byte ⟨n, hn⟩).2
      simp only at this
      rw [e] at this
      have h48 : zOf 48 = 48 := rfl
      omega
    · obtain ⟨c, r, e, hc⟩ := dig_head f (n / 10) (by rw [Nat.pow_succ] at h; omega) (by omega)
      exact ⟨c, r ++ [UInt8.ofNat (48 + n % 10)], by rw [e]; rfl, hc⟩
theorem dec_dig (n : Nat) (h : n ≤ 18446744073709551615) : decM (digM n) = some (n : Int) := by
  have hp : n < 10 ^ 20 := by
    have : (18446744073709551615 : Nat) < 10 ^ 20 := by decide
    omega
  unfold decM
  rw [if_neg, digM, dig_back 20 n hp h (by omega)]
  rintro (⟨h1, h2⟩ | h1)
  · by_cases h0 : 0 < n
    · obtain ⟨c, r, e, hc⟩ := dig_head 20 n hp h0
      rw [digM, e] at h2
      exact hc (Option.some.inj h2)
    · obtain rfl : n = 0 := by omega
      have : (digM 0).length = 1 := rfl
      omega
  · have := dig_len 20 n
    rw [digM] at h1
    omega

/-! words -/
def Stop (r : List UInt8) : Prop := r = [] ∨ ∃ x, r = 32 :: x
theorem takeWhile_stop (p : UInt8 → Bool) (hp : p 32 = false) : ∀ (w r : List UInt8), (∀ c ∈ w, p c = true) → Stop r → (w ++ r).takeWhile p = w
  | [], r, _, hr => by
    rcases hr with rfl | ⟨x, rfl⟩
    · rfl
    · simp [hp]
  | c :: w, r, h, hr => by
    rw [List.cons_append, List.takeWhile_cons, h c (by simp), if_pos rfl, takeWhile_stop p hp w r (fun x hx => h x (by simp [hx])) hr]
theorem word_stop {w r : List UInt8} (h : ∀ c ∈ w, isIn c = true) (hr : Stop r) : wordN (w ++ r) = w.length := by
  unfold wordN
  rw [takeWhile_stop isIn (by decide) w r h hr]
theorem word_full {w : List UInt8} (h : wordN w = w.length) : ∀ c ∈ w, isIn c = true := by
  intro c hc
  have := take_while_mem (p := isIn) (l := w) (n := w.length) (by unfold wordN at h; omega) c (by rwa [List.take_length])
  exact this

/-- A word, and what stands behind it. -/
structure WOK (t : Tok) (w : List UInt8) : Prop where
  ne : ∃ c r, w = c :: r ∧ ¬ c = 35 ∧ ¬ (c = 32 ∨ c = 9)
  lf : ∀ x ∈ w, ¬ x = 10
  one : ∀ r, Stop r → oneM (w ++ r) = some (t, w.length)

theorem not_ten {c : UInt8} (h : 32 < zOf c ∧ zOf c ≤ 126) : ¬ c = 10 := by
  intro e; subst e
  have : zOf 10 = 10 := rfl
  omega
theorem in_head {c : UInt8} (h : 32 < zOf c ∧ zOf c ≤ 126) (h35 : ¬ c = 35) : ¬ c = 35 ∧ ¬ (c = 32 ∨ c = 9) := by
  refine ⟨h35, ?_⟩
  rintro (e | e)
  · subst e; have : zOf 32 = 32 := rfl; omega
  · subst e; have : zOf 9 = 9 := rfl; omega

theorem wok_num (t : Tok) (hk : t.k = 2) (ht : t.t = []) (hr : -9223372036854775808 ≤ t.n ∧ t.n ≤ 9223372036854775807) : WOK t (digM (t.n % 18446744073709551616).toNat) := by
  obtain ⟨n, hn⟩ : ∃ n, (t.n % 18446744073709551616).toNat = n := ⟨_, rfl⟩
  have hn1 : n ≤ 18446744073709551615 := by omega
  have hw : wrap64 (n : Int) = t.n := by unfold wrap64; omega
  rw [hn]
  have hall := dig_all 20 n
  have hne := dig_ne 20 n (by omega)
  have hdec := dec_dig n hn1
  unfold digM at hdec ⊢
  generalize digF 20 n = w at *
  cases w with
  | nil => exact absurd rfl hne
  | cons c r =>
    have hc := hall c (by simp)
    have hp := dig_plain hc
    have c35 : ¬ c = 35 := by intro e; subst e; cases hc
    refine ⟨⟨c, r, rfl, in_head hp c35⟩, fun x hx => not_ten (dig_plain (hall x hx)), fun q hq => ?_⟩
    have hwd : wordN (c :: r ++ q) = (c :: r).length := word_stop (fun x hx => dig_in (hall x hx)) hq
    have hnum : numM (c :: r ++ q) = some ((n : Int), (c :: r).length) := by
      have c39 : ¬ c = 39 := by intro e; subst e; cases hc
      have h120 : ¬ ((c :: r).length > 2 ∧ (r ++ q).head? = some 120) := by
        rintro ⟨h2, h3⟩
        cases r with
        | nil => simp at h2
        | cons d r =>
          have hd := hall d (by simp)
          simp at h3
          subst h3
          cases hd
      unfold numM
      rw [List.cons_append] at hwd ⊢
      simp only
      rw [if_neg c39, hwd, if_neg (fun h => h120 ⟨h.1, h.2.2.2⟩)]
      rw [show (c :: (r ++ q)).take (c :: r).length = c :: r by rw [← List.cons_append]; simp, hdec]
      rfl
    unfold oneM
    rw [List.cons_append] at hnum ⊢
    simp only
    rw [if_neg (by intro e; subst e; cases hc), if_pos (.inl hc), hnum]
    simp only [Option.map_some, hw]
    obtain ⟨k, nn, tt⟩ := t
    simp only at hk ht
    subst hk; subst ht
    rfl

theorem wok_text (t : Tok) (hk : t.k = 3) (hn : t.n = 0) : WOK t (quoteM t.t) := by
  refine ⟨⟨34, _, rfl, by decide, by decide⟩, quote_byte t.t, fun r hr => ?_⟩
  rw [one_quote]
  obtain ⟨k, n, tt⟩ := t
  simp only at hk hn
  subst hk; subst hn
  rfl
end Go.Proofs.YtljmbgflcidokaaGreatDoor

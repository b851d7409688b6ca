/- What follows of the cutting, plainly: quoted texts; clean tokens; two texts, one behind the other. -/
import Derived.Test.YtljmbgflcidokaaGreatDoorLxAll
namespace Go.Proofs.YtljmbgflcidokaaGreatDoor
open Go.ChangeShapes Go.WideShapes Go.ChangeAt Go.RowKit
set_option linter.unusedVariables false
set_option linter.unusedSimpArgs false

/-- A byte that is told by two digits of 16. -/
theorem hex_back : ∀ n : Fin 16, hexZ (zOf (hexD n.val)) = (n.val : Int) := by decide
theorem hex_back' (n : Nat) (h : n < 16) : hexZ (zOf (hexD n)) = (n : Int) := hex_back ⟨n, h⟩

theorem quoC_step (c : UInt8) (rest acc : List UInt8) (i n : Nat) : quoF (n + 1) (quoC c ++ rest) acc i = quoF n rest (acc ++ [c]) (i + (quoC c).length) := by
  unfold quoC
  by_cases h10 : c = 10
  · subst h10; rfl
  · rw [if_neg h10]
    by_cases h9 : c = 9
    · subst h9; rfl
    · rw [if_neg h9]
      by_cases hx : zOf c < 32 ∨ 126 < zOf c
      · rw [if_pos hx]
        have hlt := c.toNat_lt
        have e1 := hex_back' (c.toNat / 16) (by omega)
        have e2 := hex_back' (c.toNat % 16) (by omega)
        have he : escM (120 :: hexD (c.toNat / 16) :: hexD (c.toNat % 16) :: rest) = some (c, 3) := by
          unfold escM
          simp only [show ((120 : UInt8) = 92 ∨ (120 : UInt8) = 34) = False by decide, show ((120 : UInt8) = 110) = False by decide, show ((120 : UInt8) = 116) = False by decide, show ((120 : UInt8) = 48) = False by decide, if_false, if_true]
          rw [e1, e2, if_pos ⟨by omega, by omega⟩]
          congr 2
          apply UInt8.toNat_inj.1
          rw [UInt8.toNat_ofNat']
          omega
        show (if (92 : UInt8) = 34 then some (acc, i + 1) else if zOf 92 < 32 ∨ 126 < zOf 92 then none else if (92 : UInt8) = 92 then (match escM (120 :: hexD (c.toNat / 16) :: hexD (c.toNat % 16) :: rest) with | none => none | some (x, k) => quoF n ((120 :: hexD (c.toNat / 16) :: hexD (c.toNat % 16) :: rest).drop k) (acc ++ [x]) (i + 1 + k)) else _) = _
        rw [if_neg (by decide), if_neg (by decide), if_pos rfl, he]
        rfl
      · rw [if_neg hx]
        by_cases hq : c = 34 ∨ c = 92
        · rw [if_pos hq]
          have he : escM (c :: rest) = some (c, 1) := by
            unfold escM
            simp only
            rw [if_pos (by rcases hq with h | h <;> simp [h])]
          show (if (92 : UInt8) = 34 then some (acc, i + 1) else if zOf 92 < 32 ∨ 126 < zOf 92 then none else if (92 : UInt8) = 92 then (match escM (c :: rest) with | none => none | some (x, k) => quoF n ((c :: rest).drop k) (acc ++ [x]) (i + 1 + k)) else _) = _
          rw [if_neg (by decide), if_neg (by decide), if_pos rfl, he]
          rfl
        · rw [if_neg hq]
          show (if c = 34 then some (acc, i + 1) else if zOf c < 32 ∨ 126 < zOf c then none else if c = 92 then _ else quoF n rest (acc ++ [c]) (i + 1)) = _
          rw [if_neg (fun h => hq (.inl h)), if_neg hx, if_neg (fun h => hq (.inr h))]
          rfl

theorem quo_back : ∀ (s rest acc : List UInt8) (i n : Nat), s.length < n → quoF n (s.flatMap quoC ++ 34 :: rest) acc i = some (acc ++ s, i + (s.flatMap quoC).length + 1)
  | [], rest, acc, i, n, h => by
    cases n with
    | zero => omega
    | succ n => simp [quoF]
  | c :: s, rest, acc, i, n, h => by
    cases n with
    | zero => omega
    | succ n =>
      simp only [List.length_cons] at h
      rw [List.flatMap_cons, List.append_assoc, quoC_step, quo_back s rest _ _ n (by omega)]
      simp only [List.append_assoc, List.singleton_append, List.length_append]
      congr 2
      omega

/-- A quoted text begins a text. -/
theorem one_quote (s rest : List UInt8) : oneM (quoteM s ++ rest) = some (⟨3, 0, s⟩, (quoteM s).length) := by
  have hq : quoM (quoteM s ++ rest) = some (s, (quoteM s).length) := by
    unfold quoM quoteM
    have hl : s.length ≤ (s.flatMap quoC).length := by
      induction s with
      | nil => simp
      | cons c s ih =>
        rw [List.flatMap_cons, List.length_append, List.length_cons]
        have : 1 ≤ (quoC c).length := by unfold quoC; repeat (first | split | simp)
        omega
    have := quo_back s rest [] 1 ((34 :: (s.flatMap quoC ++ [34]) ++ rest).length + 1) (by simp only [List.length_cons, List.length_append]; omega)
    simp only [List.cons_append, List.append_assoc, List.drop_succ_cons, List.drop_zero, List.nil_append, List.singleton_append] at this ⊢
    rw [this]
    simp only [List.length_cons, List.length_append, List.length_nil]
    congr 2
    omega
  have hc : quoteM s ++ rest = 34 :: (s.flatMap quoC ++ [34] ++ rest) := rfl
  unfold oneM
  rw [hc] at hq ⊢
  simp only
  rw [if_neg (by decide), if_neg (by decide), if_pos trivial, hq]
  rfl

theorem quoC_byte (c : UInt8) : ∀ x ∈ quoC c, ¬ x = 10 := by
  intro x hx
  unfold quoC at hx
  have hd : ∀ n : Fin 16, ¬ hexD n.val = 10 := by decide
  have hlt := c.toNat_lt
  split at hx
  · simp at hx; rcases hx with rfl | rfl <;> decide
  · split at hx
    · simp at hx; rcases hx with rfl | rfl <;> decide
    · split at hx
      · simp at hx
        rcases hx with rfl | rfl | rfl | rfl
        · decide
        · decide
        · exact hd ⟨c.toNat / 16, by omega⟩
        · exact hd ⟨c.toNat % 16, by omega⟩
      · rename_i h10 _ _
        split at hx
        · simp at hx; rcases hx with rfl | rfl
          · decide
          · exact h10
        · simp at hx; subst hx; exact h10
theorem quote_byte (s : List UInt8) : ∀ x ∈ quoteM s, ¬ x = 10 := by
  intro x hx
  unfold quoteM at hx
  simp only [List.mem_cons, List.mem_append, List.mem_flatMap, List.not_mem_nil, or_false] at hx
  rcases hx with rfl | ⟨c, _, h⟩ | rfl
  · decide
  · exact quoC_byte c x h
  · decide
theorem quote_len (s : List UInt8) : (quoteM s).length ≤ 4 * s.length + 2 := by
  unfold quoteM
  have : (s.flatMap quoC).length ≤ 4 * s.length := by
    induction s with
    | nil => simp
    | cons c s ih =>
      rw [List.flatMap_cons, List.length_append, List.length_cons]
      have : (quoC c).length ≤ 4 := by unfold quoC; repeat (first | split | simp)
      omega
  simp only [List.length_cons, List.length_append, List.length_nil]; omega

/-- A text without a line feed is one line. -/
theorem lines_plain : ∀ (l acc : List UInt8), (∀ x ∈ l, ¬ x = 10) → linesF l acc = if acc ++ l = [] then [] else [acc ++ l]
  | [], acc, h => by unfold linesF; simp
  | c :: r, acc, h => by
    unfold linesF
    rw [if_neg (h c (by simp)), lines_plain r _ (fun x hx => h x (by simp [hx]))]
    simp

/-- P10.7. -/
theorem texts_back (s : List UInt8) (h : s.length ≤ 16000) : allM (quoteM s) = .ok [(⟨3, 0, s⟩, 1), (⟨6, 0, []⟩, 1)] := by
  have hl := quote_len s
  have hL : linesM (quoteM s) = [quoteM s] := by
    unfold linesM
    rw [lines_plain _ _ (quote_byte s), List.nil_append, if_neg (by unfold quoteM; simp)]
  have h1 : lineM (quoteM s) = some [⟨3, 0, s⟩, ⟨6, 0, []⟩] := by
    unfold lineM
    have hone := one_quote s []
    rw [List.append_nil] at hone
    have hlf : lineF ((quoteM s).length + 1) (quoteM s) = some [⟨3, 0, s⟩] := by
      have hc : quoteM s = 34 :: (s.flatMap quoC ++ [34]) := rfl
      have hd : (quoteM s).drop (quoteM s).length = [] := List.drop_length
      generalize hq : quoteM s = q at *
      subst hc
      unfold lineF
      rw [if_neg (by decide), if_neg (by decide), hone]
      simp only
      rw [hd]
      have : ∀ n, lineF n ([] : List UInt8) = some [] := fun n => by cases n <;> rfl
      rw [this]
      rfl
    rw [hlf]
    rfl
  unfold allM
  rw [if_neg (by omega), hL, if_neg (by simp)]
  unfold cutF
  rw [h1]
  rfl
end Go.Proofs.YtljmbgflcidokaaGreatDoor

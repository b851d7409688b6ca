/- What both Reads answer. -/
import Derived.Test.YtpdcbokcoaienaaDoorSRRead
namespace Go.Proofs.YtpdcbokcoaienaaDoor
open Go.ChangeShapes Go.WideShapes Go.ChangeAt Go.RowKit
set_option linter.unusedVariables false
set_option linter.unusedSimpArgs false

theorem prs_like {a1 b1 a2 b2 a3 b3 : Option Addr} {n1 n2 k1 l1 k2 l2 k3 l3 : Nat} {f1 f2 : Nat → Int} {ss : List ByteArray} :
    ∀ n a, prs ⟨a1, n1, k1, f1, a2, n2, k2, f2, a3, k3, ss⟩ n a = prs ⟨b1, n1, l1, f1, b2, n2, l2, f2, b3, l3, ss⟩ n a := by
  intro n
  induction n with
  | zero => intro a; rfl
  | succ n ih =>
    intro a
    show (if a < n1 then (match symF ⟨a1, n1, k1, f1, a2, n2, k2, f2, a3, k3, ss⟩ a with | none => none | some s => (prs ⟨a1, n1, k1, f1, a2, n2, k2, f2, a3, k3, ss⟩ n (a + 24)).map (s :: ·)) else some []) = _
    rw [ih (a + 24)]
    rfl

theorem prs_len (I : In) : ∀ n a l, prs I n a = some l → l.length ≤ n := by
  intro n
  induction n with
  | zero => intro a l h; simp [prs] at h; subst h; simp
  | succ n ih =>
    intro a l h
    unfold prs at h
    split at h
    · split at h
      · cases h
      · rename_i s hs
        cases hp : prs I n (a + 24) with
        | none => rw [hp] at h; cases h
        | some l' =>
          rw [hp] at h
          simp at h
          subst h
          have := ih _ _ hp
          simp; omega
    · simp at h; subst h; simp

theorem sym_size (I : In) (hb : ∀ i, 0 ≤ I.f2 i ∧ I.f2 i < 256) (ht : I.n2 ≤ 1048576) (hz : ∀ s ∈ I.ss, s.size ≤ 9223372036854775807) {a : Nat} {s : Sym} (h : symF I a = some s) : s.nm.size ≤ 9223372036854775807 ∧ s.sc.size ≤ 9223372036854775807 := by
  unfold symF at h
  split at h
  · unfold symM at h
    split at h
    · have AO := atP_ok I.n2 I.f2 (fN I a 0) hb (by omega)
      cases hs : secM I.ss (fN I a 3) with
      | none => rw [hs] at h; cases h
      | some sc =>
        rw [hs] at h
        simp at h
        subst h
        refine ⟨by have := AO.1; show (atP I.n2 I.f2 (fN I a 0)).1.size ≤ _; omega, ?_⟩
        show sc.size ≤ _
        unfold secM at hs
        split at hs
        · cases hs; decide
        · split at hs
          · cases hs; decide
          · split at hs
            · cases hs
              rw [List.getD_eq_getElem?_getD]
              cases hq : I.ss[(fN I a 3).toNat - 1]? with
              | none => simp
              | some t => exact hz t (List.mem_of_getElem? hq)
            · cases hs
    · cases h
  · cases h

theorem prs_size (I : In) (hb : ∀ i, 0 ≤ I.f2 i ∧ I.f2 i < 256) (ht : I.n2 ≤ 1048576) (hz : ∀ s ∈ I.ss, s.size ≤ 9223372036854775807) : ∀ n a l, prs I n a = some l → SZ l := by
  intro n
  induction n with
  | zero => intro a l h; simp [prs] at h; subst h; intro s hs; cases hs
  | succ n ih =>
    intro a l h
    unfold prs at h
    split at h
    · split at h
      · cases h
      · rename_i s hs
        cases hp : prs I n (a + 24) with
        | none => rw [hp] at h; cases h
        | some l' =>
          rw [hp] at h
          simp at h
          subst h
          intro t ht'
          rcases List.mem_cons.1 ht' with rfl | h'
          · exact sym_size I hb ht hz hs
          · exact ih _ _ hp t h'
    · simp at h; subst h; intro s hs; cases hs

theorem prs_odd (I : In) (h : ¬ I.n1 % 24 = 0) : ∀ n a, a % 24 = 0 → I.n1 < a + n → a < I.n1 → prs I n a = none := by
  intro n
  induction n with
  | zero => intro a _ h1 h2; omega
  | succ n ih =>
    intro a h0 h1 h2
    unfold prs
    rw [if_pos h2]
    cases hs : symF I a with
    | none => rfl
    | some s =>
      have hin : a + 24 ≤ I.n1 := by
        unfold symF at hs
        by_cases hc : a + 24 ≤ I.n1
        · exact hc
        · rw [if_neg hc] at hs; cases hs
      show (prs I n (a + 24)).map (s :: ·) = none
      rw [ih (a + 24) (by omega) (by omega) (by omega)]
      rfl

/-- How a Read ends. -/
def RE (L : List Sym) (E : Int) (w : World) (e : Ending) (w' : World) : Prop :=
  ∃ ao c, e = .returned (.tuple #[.slice ao L.length c, .int .i64 E]) ∧ OwnY w' w.heap.size (.slice ao L.length c) L ∧ Below w.heap.size w w'

theorem RE.of {m : Option (List Sym)} {w w' : World} {e : Ending} (h : RdEnds m w e w') : RE (m.getD []) (if m.isSome = true then 0 else 80) w e w' := by
  cases m with
  | none => exact ⟨none, 0, h.1, OwnY.nil _ _, h.2⟩
  | some l => exact h
theorem RE.long {w w' : World} {e : Ending} (h : e = .returned (.tuple #[.slice none 0 0, .int .i64 6]) ∧ Below w.heap.size w w') : RE [] 6 w e w' := ⟨none, 0, h.1, OwnY.nil _ _, h.2⟩

theorem conv_all {w : World} {ao : Option Addr} {n : Nat} {f : Nat → Int} (c : Nat) (h : Row w ao n f) (hn : ao = none → n = 0) : ∀ W, Below w.heap.size w W → Sem.run Tryd.prog (convert 24 9 (.slice ao n c)) W = .ok (.string (strOfNums (lst f n))) W :=
  fun W hb => conv_row W ao n c f (h.below hb (Nat.le_refl _)) hn

theorem reads_any (n1 n2 : Nat) (f1 f2 : Nat → Int) (ss : List ByteArray) (first : Int) (hb1 : ∀ i, 0 ≤ f1 i ∧ f1 i < 256) (hb2 : ∀ i, 0 ≤ f2 i ∧ f2 i < 256) (t3 : ss.length ≤ 8796093022208) (z3 : ∀ s ∈ ss, s.size ≤ 9223372036854775807) :
    ∃ L E, L.length ≤ 1048577 ∧
      (∀ a1 k1 a2 k2 a3 k3 w, Row w a1 n1 f1 → (a1 = none → n1 = 0) → Row w a2 n2 f2 → (a2 = none → n2 = 0) → n2 ≤ k2 → k2 ≤ 9223372036854775807 → Strs w a3 ss → Fz w →
        Calls Tryd.prog 13 #[.slice a1 n1 k1, .slice a2 n2 k2, .int .i64 first, .slice a3 ss.length k3] w fun e w' => RE L E w e w') ∧
      (∀ a1 k1 a2 k2 a3 k3 w, Row w a1 n1 f1 → (a1 = none → n1 = 0) → Row w a2 n2 f2 → (a2 = none → n2 = 0) → n2 ≤ k2 → k2 ≤ 9223372036854775807 → Strs w a3 ss →
        Calls Tryd.prog 14 #[.slice a1 n1 k1, .slice a2 n2 k2, .int .i64 first, .slice a3 ss.length k3] w fun e w' => RE L E w e w') := by
  by_cases hlong : 1048576 < n1 ∨ 1048576 < n2
  · refine ⟨[], 6, by simp, fun a1 k1 a2 k2 a3 k3 w _ _ _ _ _ _ _ _ => ?_, fun a1 k1 a2 k2 a3 k3 w _ _ _ _ _ _ _ => ?_⟩
    · exact (read_long ⟨a1, n1, k1, f1, a2, n2, k2, f2, a3, k3, ss⟩ w first hlong).mono fun e w' h => RE.long h
    · exact (rread_long ⟨a1, n1, k1, f1, a2, n2, k2, f2, a3, k3, ss⟩ w first hlong).mono fun e w' h => RE.long h
  · have t1 : n1 ≤ 1048576 := by omega
    have t2 : n2 ≤ 1048576 := by omega
    have ok : ∀ {a1 k1 a2 k2 a3 k3 w}, Row w a1 n1 f1 → Row w a2 n2 f2 → n2 ≤ k2 → k2 ≤ 9223372036854775807 → Strs w a3 ss → InOk w ⟨a1, n1, k1, f1, a2, n2, k2, f2, a3, k3, ss⟩ :=
      fun r1 r2 h1 h2 r3 => ⟨r1, hb1, t1, r2, hb2, t2, h1, h2, r3, t3, z3⟩
    obtain ⟨M, hM⟩ : ∃ M, prsM ⟨none, n1, 0, f1, none, n2, 0, f2, none, 0, ss⟩ = M := ⟨_, rfl⟩
    have hlike : ∀ a1 k1 a2 k2 a3 k3, prsM ⟨a1, n1, k1, f1, a2, n2, k2, f2, a3, k3, ss⟩ = M := fun a1 k1 a2 k2 a3 k3 => by
      rw [← hM]; exact prs_like _ _
    cases M with
    | none =>
      refine ⟨[], 80, by simp, fun a1 k1 a2 k2 a3 k3 w r1 _ r2 _ h1 h2 r3 hf => ?_, fun a1 k1 a2 k2 a3 k3 w r1 e1 r2 e2 h1 h2 r3 => ?_⟩
      · exact (read_none ⟨a1, n1, k1, f1, a2, n2, k2, f2, a3, k3, ss⟩ w (ok r1 r2 h1 h2 r3) hf first (hlike _ _ _ _ _ _)).mono fun e w' h => RE.of h
      · by_cases hodd : n1 < 24 ∨ ¬ n1 % 24 = 0
        · exact (rread_odd ⟨a1, n1, k1, f1, a2, n2, k2, f2, a3, k3, ss⟩ w first t1 t2 hodd).mono fun e w' h => RE.of h
        · have := rread_any ⟨a1, n1, k1, f1, a2, n2, k2, f2, a3, k3, ss⟩ w (ok r1 r2 h1 h2 r3) first (show 24 ≤ n1 by omega) (show n1 % 24 = 0 by omega) [] [] 0 0 (fun l h => by rw [hlike] at h; cases h) _ _ (conv_all k1 r1 e1) (conv_all k2 r2 e2)
          rw [hlike] at this
          exact this.mono fun e w' h => RE.of h
    | some l =>
      have hll : l.length ≤ n1 + 1 := prs_len _ _ _ _ hM
      have hsz : SZ l := prs_size _ hb2 t2 z3 _ _ _ hM
      obtain ⟨Y, B, n, x, W1, W2, hY⟩ := write_both2 l ss (by omega) t3 hsz z3
      obtain ⟨ok', hok⟩ : ∃ b, (x == 0 && (n == first && ((strOfNums Y).toList == (strOfNums (lst f1 n1)).toList && (strOfNums B).toList == (strOfNums (lst f2 n2)).toList))) = b := ⟨_, rfl⟩
      refine ⟨(if ok' = true then some l else none).getD [], if (if ok' = true then some l else none).isSome = true then 0 else 80, ?_, fun a1 k1 a2 k2 a3 k3 w r1 e1 r2 e2 h1 h2 r3 hf => ?_, fun a1 k1 a2 k2 a3 k3 w r1 e1 r2 e2 h1 h2 r3 => ?_⟩
      · cases ok'
        · simp
        · simp; omega
      · have := read_some ⟨a1, n1, k1, f1, a2, n2, k2, f2, a3, k3, ss⟩ w (ok r1 r2 h1 h2 r3) hf first l (hlike _ _ _ _ _ _) Y B n x W1 _ _ (conv_all k1 r1 e1) (conv_all k2 r2 e2)
        rw [hok] at this
        exact this.mono fun e w' h => RE.of h
      · by_cases hodd : n1 < 24 ∨ ¬ n1 % 24 = 0
        · have hlt : n1 < 24 := by
            rcases hodd with h | h
            · exact h
            · by_cases h24 : n1 < 24
              · exact h24
              · have := prs_odd ⟨none, n1, 0, f1, none, n2, 0, f2, none, 0, ss⟩ h (n1 + 1) 24 (by omega) (show n1 < 24 + (n1 + 1) by omega) (show 24 < n1 by omega)
                have h2 : prs ⟨none, n1, 0, f1, none, n2, 0, f2, none, 0, ss⟩ (n1 + 1) 24 = some l := hM
                rw [this] at h2; cases h2
          have hno : ok' = false := by
            cases ok' with
            | false => rfl
            | true =>
              simp only [Bool.and_eq_true, beq_iff_eq] at hok
              have h1 := hY hok.1
              have h2 : (strOfNums Y).toList.length = (strOfNums (lst f1 n1)).toList.length := by rw [hok.2.2.1]
              rw [Lib.strOfNums_toList, Lib.strOfNums_toList, Lib.bytesOf_length, Lib.bytesOf_length, lst_len] at h2
              omega
          subst hno
          exact (rread_odd ⟨a1, n1, k1, f1, a2, n2, k2, f2, a3, k3, ss⟩ w first t1 t2 hodd).mono fun e w' h => RE.of h
        · have := rread_any ⟨a1, n1, k1, f1, a2, n2, k2, f2, a3, k3, ss⟩ w (ok r1 r2 h1 h2 r3) first (show 24 ≤ n1 by omega) (show n1 % 24 = 0 by omega) Y B n x (fun l' h => by rw [hlike] at h; cases h; exact W2) _ _ (conv_all k1 r1 e1) (conv_all k2 r2 e2)
          rw [hlike, hok] at this
          exact this.mono fun e w' h => RE.of h
end Go.Proofs.YtpdcbokcoaienaaDoor

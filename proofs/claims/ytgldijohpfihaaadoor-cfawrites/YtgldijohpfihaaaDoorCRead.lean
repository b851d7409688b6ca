/- The document's Read. -/
import Derived.Test.YtgldijohpfihaaaDoorCOpsX
namespace Go.Proofs.YtgldijohpfihaaaDoor
open Go.ChangeShapes Go.WideShapes Go.ChangeAt Go.RowKit
set_option linter.unusedVariables false
set_option linter.unusedSimpArgs false

theorem op_any (rb : Nat) (ao : Option Addr) (len cap t : Nat) (bs : Nat → Int) (c : Int) (w : World) (hd : RD w rb (.slice ao len cap) (t : Int) true) (hr : Row w ao len bs) (hna : 0 < len → ∀ b off, ao = some ⟨b, off, none⟩ → b ≠ rb) (hbs : ∀ i, 0 ≤ bs i ∧ bs i < 256) (hl : len ≤ 1048576) (ht : t ≤ len) (hc0 : 0 ≤ c) (hc1 : c < 256) :
    Calls Tryd.prog 40 #[.pointer (some ⟨rb, 0, none⟩), .int .i64 c] w fun e w' => RO (opR len bs c t) w w' rb (.slice ao len cap) e := by
  unfold opR
  by_cases k1 : 192 ≤ c
  · rw [if_pos k1]; exact op_hi rb ao len cap t bs c w hd hr hna hbs hl ht k1 hc1
  rw [if_neg k1]
  by_cases k2 : 128 ≤ c
  · rw [if_pos k2]
    cases hu : uN len bs t with
    | none => exact op_mid_n rb ao len cap t bs c w hd hr hna hbs hl ht k2 (by omega) hu
    | some p =>
      obtain ⟨n, e1⟩ := p
      dsimp only
      cases hf : facM n with
      | none => exact op_mid_f rb ao len cap t bs c n e1 w hd hr hna hbs hl ht k2 (by omega) hu hf
      | some m => exact op_mid_s rb ao len cap t bs c n m e1 w hd hr hna hbs hl ht k2 (by omega) hu hf
  rw [if_neg k2]
  by_cases k3 : 64 ≤ c
  · rw [if_pos k3]; exact op_lo rb ao len cap t bs c w hd hr hna hbs hl ht k3 (by omega)
  rw [if_neg k3]
  by_cases c0 : c = 0
  · subst c0; rw [if_pos rfl]; exact op_0 rb ao len cap t bs w hd hr hna hbs hl ht
  rw [if_neg c0]
  by_cases c2 : c = 2
  · subst c2
    rw [if_pos rfl]
    cases hu : gN len bs t 1 with
    | none => exact op_2n rb ao len cap t bs w hd hr hna hbs hl ht hu
    | some p => obtain ⟨n, e1⟩ := p; exact op_2s rb ao len cap t bs n e1 w hd hr hna hbs hl ht hu
  rw [if_neg c2]
  by_cases c3 : c = 3
  · subst c3
    rw [if_pos rfl]
    cases hu : gN len bs t 2 with
    | none => exact op_3n rb ao len cap t bs w hd hr hna hbs hl ht hu
    | some p => obtain ⟨n, e1⟩ := p; exact op_3s rb ao len cap t bs n e1 w hd hr hna hbs hl ht hu
  rw [if_neg c3]
  by_cases c4 : c = 4
  · subst c4
    rw [if_pos rfl]
    cases hu : gN len bs t 4 with
    | none => exact op_4n rb ao len cap t bs w hd hr hna hbs hl ht hu
    | some p => obtain ⟨n, e1⟩ := p; exact op_4s rb ao len cap t bs n e1 w hd hr hna hbs hl ht hu
  rw [if_neg c4]
  by_cases c5 : c = 5
  · subst c5
    rw [if_pos rfl]
    cases hu : uN len bs t with
    | none => exact op_5_n rb ao len cap t bs w hd hr hna hbs hl ht hu
    | some p =>
      obtain ⟨n, e1⟩ := p
      dsimp only
      cases hv : uN len bs e1 with
      | none => exact op_5_m rb ao len cap t bs n e1 w hd hr hna hbs hl ht hu hv
      | some p =>
        obtain ⟨n2, e2⟩ := p
        dsimp only
        cases hf : facM n2 with
        | none => exact op_5_f rb ao len cap t bs n n2 e1 e2 w hd hr hna hbs hl ht hu hv hf
        | some m => exact op_5_s rb ao len cap t bs n n2 m e1 e2 w hd hr hna hbs hl ht hu hv hf
  rw [if_neg c5]
  by_cases c6 : c = 6
  · subst c6
    rw [if_pos rfl]
    cases hu : uN len bs t with
    | none => exact op_6n rb ao len cap t bs w hd hr hna hbs hl ht hu
    | some p => obtain ⟨n, e1⟩ := p; exact op_6s rb ao len cap t bs n e1 w hd hr hna hbs hl ht hu
  rw [if_neg c6]
  by_cases c7 : c = 7
  · subst c7
    rw [if_pos rfl]
    cases hu : uN len bs t with
    | none => exact op_7n rb ao len cap t bs w hd hr hna hbs hl ht hu
    | some p => obtain ⟨n, e1⟩ := p; exact op_7s rb ao len cap t bs n e1 w hd hr hna hbs hl ht hu
  rw [if_neg c7]
  by_cases c8 : c = 8
  · subst c8
    rw [if_pos rfl]
    cases hu : uN len bs t with
    | none => exact op_8n rb ao len cap t bs w hd hr hna hbs hl ht hu
    | some p => obtain ⟨n, e1⟩ := p; exact op_8s rb ao len cap t bs n e1 w hd hr hna hbs hl ht hu
  rw [if_neg c8]
  by_cases c10 : c = 10
  · subst c10; rw [if_pos rfl]; exact op_10 rb ao len cap t bs w hd hr hna hbs hl ht
  rw [if_neg c10]
  by_cases c11 : c = 11
  · subst c11; rw [if_pos rfl]; exact op_11 rb ao len cap t bs w hd hr hna hbs hl ht
  rw [if_neg c11]
  by_cases c12 : c = 12
  · subst c12
    rw [if_pos rfl]
    cases hu : uN len bs t with
    | none => exact op_12_n rb ao len cap t bs w hd hr hna hbs hl ht hu
    | some p =>
      obtain ⟨n, e1⟩ := p
      dsimp only
      cases hv : uN len bs e1 with
      | none => exact op_12_m rb ao len cap t bs n e1 w hd hr hna hbs hl ht hu hv
      | some p => obtain ⟨n2, e2⟩ := p; exact op_12_s rb ao len cap t bs n n2 e1 e2 w hd hr hna hbs hl ht hu hv
  rw [if_neg c12]
  by_cases c13 : c = 13
  · subst c13
    rw [if_pos rfl]
    cases hu : uN len bs t with
    | none => exact op_13n rb ao len cap t bs w hd hr hna hbs hl ht hu
    | some p => obtain ⟨n, e1⟩ := p; exact op_13s rb ao len cap t bs n e1 w hd hr hna hbs hl ht hu
  rw [if_neg c13]
  by_cases c14 : c = 14
  · subst c14
    rw [if_pos rfl]
    cases hu : uN len bs t with
    | none => exact op_14n rb ao len cap t bs w hd hr hna hbs hl ht hu
    | some p => obtain ⟨n, e1⟩ := p; exact op_14s rb ao len cap t bs n e1 w hd hr hna hbs hl ht hu
  rw [if_neg c14]
  by_cases c17 : c = 17
  · subst c17
    rw [if_pos rfl]
    cases hu : uN len bs t with
    | none => exact op_17_n rb ao len cap t bs w hd hr hna hbs hl ht hu
    | some p =>
      obtain ⟨n, e1⟩ := p
      dsimp only
      cases hv : sR len bs e1 with
      | none => exact op_17_m rb ao len cap t bs n e1 w hd hr hna hbs hl ht hu hv
      | some p =>
        obtain ⟨n2, e2⟩ := p
        dsimp only
        cases hf : facM n2 with
        | none => exact op_17_f rb ao len cap t bs n n2 e1 e2 w hd hr hna hbs hl ht hu hv hf
        | some m => exact op_17_s rb ao len cap t bs n n2 m e1 e2 w hd hr hna hbs hl ht hu hv hf
  rw [if_neg c17]
  exact op_bad rb ao len cap t bs c w hd hr hna hbs hl ht (by omega) (by simpa using c0) (by simpa using c2) (by simpa using c3) (by simpa using c4) (by simpa using c5) (by simpa using c6) (by simpa using c7) (by simpa using c8) (by simpa using c10) (by simpa using c11) (by simpa using c12) (by simpa using c13) (by simpa using c14) (by simpa using c17)

theorem uN_le {len : Nat} {bs : Nat → Int} {t e : Nat} {n : Int} (h : uN len bs t = some (n, e)) : t ≤ e ∧ e ≤ len := by
  unfold uN uR at h
  cases hc : cN len bs t with
  | none => rw [hc] at h; cases h
  | some j =>
    rw [hc] at h
    have hn := cN_some hc
    have := hn.2.2.1
    dsimp only at h
    by_cases hx : j = 9 ∧ 1 < bs (t + 9)
    · rw [if_pos hx] at h; cases h
    · rw [if_neg hx] at h
      dsimp only at h
      split at h
      · simp only [Option.some.injEq, Prod.mk.injEq] at h; omega
      · cases h
theorem sR_le {len : Nat} {bs : Nat → Int} {t e : Nat} {n : Int} (h : sR len bs t = some (n, e)) : t ≤ e ∧ e ≤ len := by
  unfold sR at h
  cases hc : cN len bs t with
  | none => rw [hc] at h; cases h
  | some j =>
    rw [hc] at h
    have hn := cN_some hc
    have := hn.2.2.1
    dsimp only at h
    split at h
    · cases h
    · simp only [Option.some.injEq, Prod.mk.injEq] at h; omega
theorem gN_le {len : Nat} {bs : Nat → Int} {t s e : Nat} {n : Int} (h : gN len bs t s = some (n, e)) : t ≤ e ∧ e ≤ len := by
  unfold gN at h
  split at h
  · simp only [Option.some.injEq, Prod.mk.injEq] at h; omega
  · cases h
theorem opR_le {len : Nat} {bs : Nat → Int} {c : Int} {t e : Nat} {o : Oq} (ht : t ≤ len) (h : opR len bs c t = some (o, e)) : t ≤ e ∧ e ≤ len := by
  have one : ∀ {m : Option (Int × Nat)} {f : Int → Oq}, (∀ n e, m = some (n, e) → t ≤ e ∧ e ≤ len) → (match m with | none => none | some (n, e) => some (f n, e)) = some (o, e) → t ≤ e ∧ e ≤ len := fun {m f} hm hx => by
    cases m with
    | none => cases hx
    | some p => obtain ⟨n, e'⟩ := p; cases hx; exact hm _ _ rfl
  have fac : ∀ {m : Option (Int × Nat)} {r : Int} {t' : Nat}, t ≤ t' → (∀ n e, m = some (n, e) → t' ≤ e ∧ e ≤ len) → (match m with | none => none | some (n, e) => match facM n with | none => none | some x => some ((⟨5, r, x⟩ : Oq), e)) = some (o, e) → t ≤ e ∧ e ≤ len := fun {m r t'} hle hm hx => by
    cases m with
    | none => cases hx
    | some p =>
      obtain ⟨n, e'⟩ := p
      dsimp only at hx
      cases hf : facM n with
      | none => rw [hf] at hx; cases hx
      | some x => rw [hf] at hx; cases hx; have := hm _ _ rfl; omega
  unfold opR at h
  by_cases k1 : 192 ≤ c
  · rw [if_pos k1] at h; cases h; exact ⟨Nat.le_refl _, ht⟩
  rw [if_neg k1] at h
  by_cases k2 : 128 ≤ c
  · rw [if_pos k2] at h; exact fac (Nat.le_refl _) (fun _ _ => uN_le) h
  rw [if_neg k2] at h
  by_cases k3 : 64 ≤ c
  · rw [if_pos k3] at h; cases h; exact ⟨Nat.le_refl _, ht⟩
  rw [if_neg k3] at h
  by_cases c0 : c = 0
  · rw [if_pos c0] at h; cases h; exact ⟨Nat.le_refl _, ht⟩
  rw [if_neg c0] at h
  by_cases c2 : c = 2
  · rw [if_pos c2] at h; exact one (f := fun n => ⟨1, 0, n⟩) (fun _ _ => gN_le) h
  rw [if_neg c2] at h
  by_cases c3 : c = 3
  · rw [if_pos c3] at h; exact one (f := fun n => ⟨1, 0, n⟩) (fun _ _ => gN_le) h
  rw [if_neg c3] at h
  by_cases c4 : c = 4
  · rw [if_pos c4] at h; exact one (f := fun n => ⟨1, 0, n⟩) (fun _ _ => gN_le) h
  rw [if_neg c4] at h
  by_cases c5 : c = 5
  · rw [if_pos c5] at h
    cases hu : uN len bs t with
    | none => rw [hu] at h; cases h
    | some p =>
      obtain ⟨n, e1⟩ := p
      rw [hu] at h
      exact fac (uN_le hu).1 (fun _ _ => uN_le) h
  rw [if_neg c5] at h
  by_cases c6 : c = 6
  · rw [if_pos c6] at h; exact one (f := fun n => ⟨6, n, 0⟩) (fun _ _ => uN_le) h
  rw [if_neg c6] at h
  by_cases c7 : c = 7
  · rw [if_pos c7] at h; exact one (f := fun n => ⟨7, n, 0⟩) (fun _ _ => uN_le) h
  rw [if_neg c7] at h
  by_cases c8 : c = 8
  · rw [if_pos c8] at h; exact one (f := fun n => ⟨8, n, 0⟩) (fun _ _ => uN_le) h
  rw [if_neg c8] at h
  by_cases c10 : c = 10
  · rw [if_pos c10] at h; cases h; exact ⟨Nat.le_refl _, ht⟩
  rw [if_neg c10] at h
  by_cases c11 : c = 11
  · rw [if_pos c11] at h; cases h; exact ⟨Nat.le_refl _, ht⟩
  rw [if_neg c11] at h
  by_cases c12 : c = 12
  · rw [if_pos c12] at h
    cases hu : uN len bs t with
    | none => rw [hu] at h; cases h
    | some p =>
      obtain ⟨n, e1⟩ := p
      rw [hu] at h
      dsimp only at h
      cases hv : uN len bs e1 with
      | none => rw [hv] at h; cases h
      | some p =>
        obtain ⟨n2, e2⟩ := p
        rw [hv] at h
        cases h
        have h1 := uN_le hu
        have h2 := uN_le hv
        omega
  rw [if_neg c12] at h
  by_cases c13 : c = 13
  · rw [if_pos c13] at h; exact one (f := fun n => ⟨4, n, 0⟩) (fun _ _ => uN_le) h
  rw [if_neg c13] at h
  by_cases c14 : c = 14
  · rw [if_pos c14] at h; exact one (f := fun n => ⟨3, 0, n⟩) (fun _ _ => uN_le) h
  rw [if_neg c14] at h
  by_cases c17 : c = 17
  · rw [if_pos c17] at h
    cases hu : uN len bs t with
    | none => rw [hu] at h; cases h
    | some p =>
      obtain ⟨n, e1⟩ := p
      rw [hu] at h
      exact fac (uN_le hu).1 (fun _ _ => sR_le) h
  rw [if_neg c17] at h
  cases h

/-- What Read answers, from a place on. -/
def rdM (len : Nat) (bs : Nat → Int) : Nat → Nat → List Oq → Except Int (List Oq)
  | 0, _, out => .ok out
  | f + 1, t, out => if t < len then (match opR len bs (bs t) (t + 1) with
      | none => .error 130
      | some (o, e) => if mayB o = false then .error 130 else if out.length = 4000 then .error 6 else rdM len bs f e (out ++ [o])) else .ok out
theorem rdM_fuel (len : Nat) (bs : Nat → Int) : ∀ (f g t : Nat) (out : List Oq), len < t + f → len < t + g → t ≤ len → rdM len bs f t out = rdM len bs g t out
  | 0, g, t, out, h1, h2, h3 => by omega
  | f + 1, 0, t, out, h1, h2, h3 => by omega
  | f + 1, g + 1, t, out, h1, h2, h3 => by
    simp only [rdM]
    split
    · cases ho : opR len bs (bs t) (t + 1) with
      | none => rfl
      | some p =>
        obtain ⟨o, e⟩ := p
        have := opR_le (by omega) ho
        dsimp only
        split
        · rfl
        · split
          · rfl
          · exact rdM_fuel len bs f g e _ (by omega) (by omega) (by omega)
    · rfl
/-- Read's error, its ops. -/
def exE : Except Int (List Oq) → Int
  | .error x => x
  | .ok _ => 0
def exL : Except Int (List Oq) → List Oq
  | .error _ => []
  | .ok l => l
def readE (len : Nat) (bs : Nat → Int) : Int := if 1048576 < len then 6 else exE (rdM len bs (len + 1) 0 [])
def readL (len : Nat) (bs : Nat → Int) : List Oq := if 1048576 < len then [] else exL (rdM len bs (len + 1) 0 [])
theorem rdM_none {len : Nat} {bs : Nat → Int} {f t : Nat} {l : List Oq} (ht : t < len) (ho : opR len bs (bs t) (t + 1) = none) : rdM len bs (f + 1) t l = .error 130 := by
  simp only [rdM]; rw [if_pos ht, ho]
theorem rdM_may {len : Nat} {bs : Nat → Int} {f t e : Nat} {l : List Oq} {o : Oq} (ht : t < len) (ho : opR len bs (bs t) (t + 1) = some (o, e)) (hm : mayB o = false) : rdM len bs (f + 1) t l = .error 130 := by
  simp only [rdM]; rw [if_pos ht, ho]; dsimp only; rw [if_pos hm]
theorem rdM_many {len : Nat} {bs : Nat → Int} {f t e : Nat} {l : List Oq} {o : Oq} (ht : t < len) (ho : opR len bs (bs t) (t + 1) = some (o, e)) (hm : mayB o = true) (h : l.length = 4000) : rdM len bs (f + 1) t l = .error 6 := by
  simp only [rdM]; rw [if_pos ht, ho]; dsimp only; rw [if_neg (by rw [hm]; decide), if_pos h]
theorem rdM_more {len : Nat} {bs : Nat → Int} {f t e : Nat} {l : List Oq} {o : Oq} (ht : t < len) (ho : opR len bs (bs t) (t + 1) = some (o, e)) (hm : mayB o = true) (h : ¬ l.length = 4000) : rdM len bs (f + 1) t l = rdM len bs f e (l ++ [o]) := by
  simp only [rdM]; rw [if_pos ht, ho]; dsimp only; rw [if_neg (by rw [hm]; decide), if_neg h]
theorem rdM_end {len : Nat} {bs : Nat → Int} {f t : Nat} {l : List Oq} (ht : ¬ t < len) : rdM len bs f t l = .ok l := by
  cases f with
  | zero => rfl
  | succ f => simp only [rdM]; rw [if_neg ht]
end Go.Proofs.YtgldijohpfihaaaDoor

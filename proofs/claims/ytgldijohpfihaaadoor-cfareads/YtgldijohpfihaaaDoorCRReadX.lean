/- The document's Read. The document's Read, whole. -/
import Derived.Test.YtgldijohpfihaaaDoorCOpsX
namespace Go.Proofs.YtgldijohpfihaaaDoor
open Go.ChangeShapes Go.WideShapes Go.ChangeAt Go.RowKit
set_option linter.unusedVariables false
set_option linter.unusedSimpArgs false

theorem op_any (rb : Nat) (ao : Option Addr) (len cap t : Nat) (bs : Nat → Int) (c : Int) (w : World) (hd : RD w rb (.slice ao len cap) (t : Int) true) (hr : Row w ao len bs) (hna : 0 < len → ∀ b off, ao = some ⟨b, off, none⟩ → b ≠ rb) (hbs : ∀ i, 0 ≤ bs i ∧ bs i < 256) (hl : len ≤ 1048576) (ht : t ≤ len) (hc0 : 0 ≤ c) (hc1 : c < 256) :
    Calls Tryd.prog 40 #[.pointer (some ⟨rb, 0, none⟩), .int .i64 c] w fun e w' => RO (opR len bs c t) w w' rb (.slice ao len cap) e := by
  unfold opR
  by_cases k1 : 192 ≤ c
  · rw [if_pos k1]; exact op_hi rb ao len cap t bs c w hd hr hna hbs hl ht k1 hc1
  rw [if_neg k1]
  by_cases k2 : 128 ≤ c
  · rw [if_pos k2]
    cases hu : uN len bs t with
    | none => exact op_mid_n rb ao len cap t bs c w hd hr hna hbs hl ht k2 (by omega) hu
    | some p =>
      obtain ⟨n, e1⟩ := p
      dsimp only
      cases hf : facM n with
      | none => exact op_mid_f rb ao len cap t bs c n e1 w hd hr hna hbs hl ht k2 (by omega) hu hf
      | some m => exact op_mid_s rb ao len cap t bs c n m e1 w hd hr hna hbs hl ht k2 (by omega) hu hf
  rw [if_neg k2]
  by_cases k3 : 64 ≤ c
  · rw [if_pos k3]; exact op_lo rb ao len cap t bs c w hd hr hna hbs hl ht k3 (by omega)
  rw [if_neg k3]
  by_cases c0 : c = 0
  · subst c0; rw [if_pos rfl]; exact op_0 rb ao len cap t bs w hd hr hna hbs hl ht
  rw [if_neg c0]
  by_cases c2 : c = 2
  · subst c2
    rw [if_pos rfl]
    cases hu : gN len bs t 1 with
    | none => exact op_2n rb ao len cap t bs w hd hr hna hbs hl ht hu
    | some p => obtain ⟨n, e1⟩ := p; exact op_2s rb ao len cap t bs n e1 w hd hr hna hbs hl ht hu
  rw [if_neg c2]
  by_cases c3 : c = 3
  · subst c3
    rw [if_pos rfl]
    cases hu : gN len bs t 2 with
    | none => exact op_3n rb ao len cap t bs w hd hr hna hbs hl ht hu
    | some p => obtain ⟨n, e1⟩ := p; exact op_3s rb ao len cap t bs n e1 w hd hr hna hbs hl ht hu
  rw [if_neg c3]
  by_cases c4 : c = 4
  · subst c4
    rw [if_pos rfl]
    cases hu : gN len bs t 4 with
    | none => exact op_4n rb ao len cap t bs w hd hr hna hbs hl ht hu
    | some p => obtain ⟨n, e1⟩ := p; exact op_4s rb ao len cap t bs n e1 w hd hr hna hbs hl ht hu
  rw [if_neg c4]
  by_cases c5 : c = 5
  · subst c5
    rw [if_pos rfl]
    cases hu : uN len bs t with
    | none => exact op_5_n rb ao len cap t bs w hd hr hna hbs hl ht hu
    | some p =>
      obtain ⟨n, e1⟩ := p
      dsimp only
      cases hv : uN len bs e1 with
      | none => exact op_5_m rb ao len cap t bs n e1 w hd hr hna hbs hl ht hu hv
      | some p =>
        obtain ⟨n2, e2⟩ := p
        dsimp only
        cases hf : facM n2 with
        | none => exact op_5_f rb ao len cap t bs n n2 e1 e2 w hd hr hna hbs hl ht hu hv hf
        | some m => exact op_5_s rb ao len cap t bs n n2 m e1 e2 w hd hr hna hbs hl ht hu hv hf
  rw [if_neg c5]
  by_cases c6 : c = 6
  · subst c6
    rw [if_pos rfl]
    cases hu : uN len bs t with
    | none => exact op_6n rb ao len cap t bs w hd hr hna hbs hl ht hu
    | some p => obtain ⟨n, e1⟩ := p; exact op_6s rb ao len cap t bs n e1 w hd hr hna hbs hl ht hu
  rw [if_neg c6]
  by_cases c7 : c = 7
  · subst c7
    rw [if_pos rfl]
    cases hu : uN len bs t with
    | none => exact op_7n rb ao len cap t bs w hd hr hna hbs hl ht hu
    | some p => obtain ⟨n, e1⟩ := p; exact op_7s rb ao len cap t bs n e1 w hd hr hna hbs hl ht hu
  rw [if_neg c7]
  by_cases c8 : c = 8
  · subst c8
    rw [if_pos rfl]
    cases hu : uN len bs t with
    | none => exact op_8n rb ao len cap t bs w hd hr hna hbs hl ht hu
    | some p => obtain ⟨n, e1⟩ := p; exact op_8s rb ao len cap t bs n e1 w hd hr hna hbs hl ht hu
  rw [if_neg c8]
  by_cases c10 : c = 10
  · subst c10; rw [if_pos rfl]; exact op_10 rb ao len cap t bs w hd hr hna hbs hl ht
  rw [if_neg c10]
  by_cases c11 : c = 11
  · subst c11; rw [if_pos rfl]; exact op_11 rb ao len cap t bs w hd hr hna hbs hl ht
  rw [if_neg c11]
  by_cases c12 : c = 12
  · subst c12
    rw [if_pos rfl]
    cases hu : uN len bs t with
    | none => exact op_12_n rb ao len cap t bs w hd hr hna hbs hl ht hu
    | some p =>
      obtain ⟨n, e1⟩ := p
      dsimp only
      cases hv : uN len bs e1 with
      | none => exact op_12_m rb ao len cap t bs n e1 w hd hr hna hbs hl ht hu hv
      | some p => obtain ⟨n2, e2⟩ := p; exact op_12_s rb ao len cap t bs n n2 e1 e2 w hd hr hna hbs hl ht hu hv
  rw [if_neg c12]
  by_cases c13 : c = 13
  · subst c13
    rw [if_pos rfl]
    cases hu : uN len bs t with
    | none => exact op_13n rb ao len cap t bs w hd hr hna hbs hl ht hu
    | some p => obtain ⟨n, e1⟩ := p; exact op_13s rb ao len cap t bs n e1 w hd hr hna hbs hl ht hu
  rw [if_neg c13]
  by_cases c14 : c = 14
  · subst c14
    rw [if_pos rfl]
    cases hu : uN len bs t with
    | none => exact op_14n rb ao len cap t bs w hd hr hna hbs hl ht hu
    | some p => obtain ⟨n, e1⟩ := p; exact op_14s rb ao len cap t bs n e1 w hd hr hna hbs hl ht hu
  rw [if_neg c14]
  by_cases c17 : c = 17
  · subst c17
    rw [if_pos rfl]
    cases hu : uN len bs t with
    | none => exact op_17_n rb ao len cap t bs w hd hr hna hbs hl ht hu
    | some p =>
      obtain ⟨n, e1⟩ := p
      dsimp only
      cases hv : sR len bs e1 with
      | none => exact op_17_m rb ao len cap t bs n e1 w hd hr hna hbs hl ht hu hv
      | some p =>
        obtain ⟨n2, e2⟩ := p
        dsimp only
        cases hf : facM n2 with
        | none => exact op_17_f rb ao len cap t bs n n2 e1 e2 w hd hr hna hbs hl ht hu hv hf
        | some m => exact op_17_s rb ao len cap t bs n n2 m e1 e2 w hd hr hna hbs hl ht hu hv hf
  rw [if_neg c17]
  exact op_bad rb ao len cap t bs c w hd hr hna hbs hl ht (by omega) (by simpa using c0) (by simpa using c2) (by simpa using c3) (by simpa using c4) (by simpa using c5) (by simpa using c6) (by simpa using c7) (by simpa using c8) (by simpa using c10) (by simpa using c11) (by simpa using c12) (by simpa using c13) (by simpa using c14) (by simpa using c17)

theorem uN_le {len : Nat} {bs : Nat → Int} {t e : Nat} {n : Int} (h : uN len bs t = some (n, e)) : t ≤ e ∧ e ≤ len := by
  unfold uN uR at h
  cases hc : cN len bs t with
  | none => rw [hc] at h; cases h
  | some j =>
    rw [hc] at h
    have hn := cN_some hc
    have := hn.2.2.1
    dsimp only at h
    by_cases hx : j = 9 ∧ 1 < bs (t + 9)
    · rw [if_pos hx] at h; cases h
    · rw [if_neg hx] at h
      dsimp only at h
      split at h
      · simp only [Option.some.injEq, Prod.mk.injEq] at h; omega
      · cases h
theorem sR_le {len : Nat} {bs : Nat → Int} {t e : Nat} {n : Int} (h : sR len bs t = some (n, e)) : t ≤ e ∧ e ≤ len := by
  unfold sR at h
  cases hc : cN len bs t with
  | none => rw [hc] at h; cases h
  | some j =>
    rw [hc] at h
    have hn := cN_some hc
    have := hn.2.2.1
    dsimp only at h
    split at h
    · cases h
    · simp only [Option.some.injEq, Prod.mk.injEq] at h; omega
theorem gN_le {len : Nat} {bs : Nat → Int} {t s e : Nat} {n : Int} (h : gN len bs t s = some (n, e)) : t ≤ e ∧ e ≤ len := by
  unfold gN at h
  split at h
  · simp only [Option.some.injEq, Prod.mk.injEq] at h; omega
  · cases h
theorem opR_le {len : Nat} {bs : Nat → Int} {c : Int} {t e : Nat} {o : Oq} (ht : t ≤ len) (h : opR len bs c t = some (o, e)) : t ≤ e ∧ e ≤ len := by
  have one : ∀ {m : Option (Int × Nat)} {f : Int → Oq}, (∀ n e, m = some (n, e) → t ≤ e ∧ e ≤ len) → (match m with | none => none | some (n, e) => some (f n, e)) = some (o, e) → t ≤ e ∧ e ≤ len := fun {m f} hm hx => by
    cases m with
    | none => cases hx
    | some p => obtain ⟨n, e'⟩ := p; cases hx; exact hm _ _ rfl
  have fac : ∀ {m : Option (Int × Nat)} {r : Int} {t' : Nat}, t ≤ t' → (∀ n e, m = some (n, e) → t' ≤ e ∧ e ≤ len) → (match m with | none => none | some (n, e) => match facM n with | none => none | some x => some ((⟨5, r, x⟩ : Oq), e)) = some (o, e) → t ≤ e ∧ e ≤ len := fun {m r t'} hle hm hx => by
    cases m with
    | none => cases hx
    | some p =>
      obtain ⟨n, e'⟩ := p
      dsimp only at hx
      cases hf : facM n with
      | none => rw [hf] at hx; cases hx
      | some x => rw [hf] at hx; cases hx; have := hm _ _ rfl; omega
  unfold opR at h
  by_cases k1 : 192 ≤ c
  · rw [if_pos k1] at h; cases h; exact ⟨Nat.le_refl _, ht⟩
  rw [if_neg k1] at h
  by_cases k2 : 128 ≤ c
  · rw [if_pos k2] at h; exact fac (Nat.le_refl _) (fun _ _ => uN_le) h
  rw [if_neg k2] at h
  by_cases k3 : 64 ≤ c
  · rw [if_pos k3] at h; cases h; exact ⟨Nat.le_refl _, ht⟩
  rw [if_neg k3] at h
  by_cases c0 : c = 0
  · rw [if_pos c0] at h; cases h; exact ⟨Nat.le_refl _, ht⟩
  rw [if_neg c0] at h
  by_cases c2 : c = 2
  · rw [if_pos c2] at h; exact one (f := fun n => ⟨1, 0, n⟩) (fun _ _ => gN_le) h
  rw [if_neg c2] at h
  by_cases c3 : c = 3
  · rw [if_pos c3] at h; exact one (f := fun n => ⟨1, 0, n⟩) (fun _ _ => gN_le) h
  rw [if_neg c3] at h
  by_cases c4 : c = 4
  · rw [if_pos c4] at h; exact one (f := fun n => ⟨1, 0, n⟩) (fun _ _ => gN_le) h
  rw [if_neg c4] at h
  by_cases c5 : c = 5
  · rw [if_pos c5] at h
    cases hu : uN len bs t with
    | none => rw [hu] at h; cases h
    | some p =>
      obtain ⟨n, e1⟩ := p
      rw [hu] at h
      exact fac (uN_le hu).1 (fun _ _ => uN_le) h
  rw [if_neg c5] at h
  by_cases c6 : c = 6
  · rw [if_pos c6] at h; exact one (f := fun n => ⟨6, n, 0⟩) (fun _ _ => uN_le) h
  rw [if_neg c6] at h
  by_cases c7 : c = 7
  · rw [if_pos c7] at h; exact one (f := fun n => ⟨7, n, 0⟩) (fun _ _ => uN_le) h
  rw [if_neg c7] at h
  by_cases c8 : c = 8
  · rw [if_pos c8] at h; exact one (f := fun n => ⟨8, n, 0⟩) (fun _ _ => uN_le) h
  rw [if_neg c8] at h
  by_cases c10 : c = 10
  · rw [if_pos c10] at h; cases h; exact ⟨Nat.le_refl _, ht⟩
  rw [if_neg c10] at h
  by_cases c11 : c = 11
  · rw [if_pos c11] at h; cases h; exact ⟨Nat.le_refl _, ht⟩
  rw [if_neg c11] at h
  by_cases c12 : c = 12
  · rw [if_pos c12] at h
    cases hu : uN len bs t with
    | none => rw [hu] at h; cases h
    | some p =>
      obtain ⟨n, e1⟩ := p
      rw [hu] at h
      dsimp only at h
      cases hv : uN len bs e1 with
      | none => rw [hv] at h; cases h
      | some p =>
        obtain ⟨n2, e2⟩ := p
        rw [hv] at h
        cases h
        have h1 := uN_le hu
        have h2 := uN_le hv
        omega
  rw [if_neg c12] at h
  by_cases c13 : c = 13
  · rw [if_pos c13] at h; exact one (f := fun n => ⟨4, n, 0⟩) (fun _ _ => uN_le) h
  rw [if_neg c13] at h
  by_cases c14 : c = 14
  · rw [if_pos c14] at h; exact one (f := fun n => ⟨3, 0, n⟩) (fun _ _ => uN_le) h
  rw [if_neg c14] at h
  by_cases c17 : c = 17
  · rw [if_pos c17] at h
    cases hu : uN len bs t with
    | none => rw [hu] at h; cases h
    | some p =>
      obtain ⟨n, e1⟩ := p
      rw [hu] at h
      exact fac (uN_le hu).1 (fun _ _ => sR_le) h
  rw [if_neg c17] at h
  cases h

/-- What Read answers, from a place on. -/
def rdM (len : Nat) (bs : Nat → Int) : Nat → Nat → List Oq → Except Int (List Oq)
  | 0, _, out => .ok out
  | f + 1, t, out => if t < len then (match opR len bs (bs t) (t + 1) with
      | none => .error 130
      | some (o, e) => if mayB o = false then .error 130 else if out.length = 4000 then .error 6 else rdM len bs f e (out ++ [o])) else .ok out
theorem rdM_fuel (len : Nat) (bs : Nat → Int) : ∀ (f g t : Nat) (out : List Oq), len < t + f → len < t + g → t ≤ len → rdM len bs f t out = rdM len bs g t out
  | 0, g, t, out, h1, h2, h3 => by omega
  | f + 1, 0, t, out, h1, h2, h3 => by omega
  | f + 1, g + 1, t, out, h1, h2, h3 => by
    simp only [rdM]
    split
    · cases ho : opR len bs (bs t) (t + 1) with
      | none => rfl
      | some p =>
        obtain ⟨o, e⟩ := p
        have := opR_le (by omega) ho
        dsimp only
        split
        · rfl
        · split
          · rfl
          · exact rdM_fuel len bs f g e _ (by omega) (by omega) (by omega)
    · rfl
/-- Read's error, its ops. -/
def exE : Except Int (List Oq) → Int
  | .error x => x
  | .ok _ => 0
def exL : Except Int (List Oq) → List Oq
  | .error _ => []
  | .ok l => l
def readE (len : Nat) (bs : Nat → Int) : Int := if 1048576 < len then 6 else exE (rdM len bs (len + 1) 0 [])
def readL (len : Nat) (bs : Nat → Int) : List Oq := if 1048576 < len then [] else exL (rdM len bs (len + 1) 0 [])
theorem rdM_none {len : Nat} {bs : Nat → Int} {f t : Nat} {l : List Oq} (ht : t < len) (ho : opR len bs (bs t) (t + 1) = none) : rdM len bs (f + 1) t l = .error 130 := by
  simp only [rdM]; rw [if_pos ht, ho]
theorem rdM_may {len : Nat} {bs : Nat → Int} {f t e : Nat} {l : List Oq} {o : Oq} (ht : t < len) (ho : opR len bs (bs t) (t + 1) = some (o, e)) (hm : mayB o = false) : rdM len bs (f + 1) t l = .error 130 := by
  simp only [rdM]; rw [if_pos ht, ho]; dsimp only; rw [if_pos hm]
theorem rdM_many {len : Nat} {bs : Nat → Int} {f t e : Nat} {l : List Oq} {o : Oq} (ht : t < len) (ho : opR len bs (bs t) (t + 1) = some (o, e)) (hm : mayB o = true) (h : l.length = 4000) : rdM len bs (f + 1) t l = .error 6 := by
  simp only [rdM]; rw [if_pos ht, ho]; dsimp only; rw [if_neg (by rw [hm]; decide), if_pos h]
theorem rdM_more {len : Nat} {bs : Nat → Int} {f t e : Nat} {l : List Oq} {o : Oq} (ht : t < len) (ho : opR len bs (bs t) (t + 1) = some (o, e)) (hm : mayB o = true) (h : ¬ l.length = 4000) : rdM len bs (f + 1) t l = rdM len bs f e (l ++ [o]) := by
  simp only [rdM]; rw [if_pos ht, ho]; dsimp only; rw [if_neg (by rw [hm]; decide), if_neg h]
theorem rdM_end {len : Nat} {bs : Nat → Int} {f t : Nat} {l : List Oq} (ht : ¬ t < len) : rdM len bs f t l = .ok l := by
  cases f with
  | zero => rfl
  | succ f => simp only [rdM]; rw [if_neg ht]

theorem OwnR.turn {w w' : World} {base : Nat} {v : Value} {l : List Oq} (h : OwnR w base v l) {S : Nat → Prop} (ht : Turn S w w') (hs : ∀ k, base ≤ k → ¬ S k) : OwnR w' base v l :=
  ht.row h fun k hk => hs k (own_block h k hk)
/-- Where Read is. -/
structure RL (w0 wr : World) (rb : Nat) (ao : Option Addr) (len cap : Nat) (bs : Nat → Int) (t : Nat) (v : Value) (l : List Oq) : Prop where
  rd : RD wr rb (.slice ao len cap) (t : Int) true
  row : Row wr ao len bs
  own : OwnR wr (rb + 1) v l
  bel : Below w0.heap.size w0 wr
  new : w0.heap.size ≤ rb
  le : t ≤ len
  few : l.length ≤ 4000
theorem Own_low {w : World} {b b' : Nat} {v : Value} {l : List Oq} (h : OwnR w b v l) (hb : b' ≤ b) : OwnR w b' v l := by
  refine ⟨h.1, ?_⟩
  rcases h.2 with hv | ⟨g', c', cur, hv, h2, h3⟩
  · exact .inl hv
  · exact .inr ⟨g', c', cur, hv, by omega, h3⟩

/-- Where the reader stands. -/
def rdT (w : World) (rb : Nat) : Nat := match w.cell? ⟨rb, 1, none⟩ with | some (.int _ x) => x.toNat | _ => 0
theorem RD.at' {w : World} {rb : Nat} {v : Value} {t : Nat} {ok : Bool} (h : RD w rb v (t : Int) ok) : rdT w rb = t := by
  unfold rdT
  rw [h.c1]
  simp

set_option maxHeartbeats 4000000 in
set_option maxRecDepth 10000 in
theorem rread_any (ao : Option Addr) (len cap : Nat) (bs : Nat → Int) (w : World) (hr : Row w ao len bs) (hbs : ∀ i, 0 ≤ bs i ∧ bs i < 256) (hl : len ≤ 140737488355328) :
    Calls Tryd.prog 26 #[.slice ao len cap] w fun e w' => ∃ v, e = .returned (.tuple #[v, .int .i64 (readE len bs)]) ∧ OwnR w' w.heap.size v (readL len bs) ∧ Below w.heap.size w w' := by
  by_cases h4 : 1048576 < len
  · have HE : Hid (readE len bs = 6 ∧ readL len bs = []) := ⟨by unfold readE; rw [if_pos h4], by unfold readL; rw [if_pos h4]⟩
    have h4' : (1048576 : Int) < (len : Int) := by omega
    clear hr hbs
    go_enter Tryd.func26, Tryd.ntmps26
    go_wp2
    go_ret2
    exact ⟨_, by rw [HE.out.1]; rfl, by rw [HE.out.2]; exact OwnR.nil _ _, Below.refl _ _⟩
  have h4' : ¬ (1048576 : Int) < (len : Int) := by omega
  have HE : Hid (readE len bs = exE (rdM len bs (len + 1) 0 []) ∧ readL len bs = exL (rdM len bs (len + 1) 0 [])) := ⟨by unfold readE; rw [if_neg h4], by unfold readL; rw [if_neg h4]⟩
  have HB : Hid ((∀ i, 0 ≤ bs i ∧ bs i < 256) ∧ len ≤ 1048576) := ⟨hbs, by omega⟩
  have HS : Hid (RL w (w.alloc (.cells #[.slice ao len cap, .int .i64 0, .bool true] 104)) w.heap.size ao len cap bs 0 (.slice none 0 0) []) := ⟨⟨⟨heap_alloc_new w _⟩, hr.alloc _, OwnR.nil _ _, (Below.refl _ _).alloc (Nat.le_refl _) _, Nat.le_refl _, Nat.zero_le _, by simp⟩⟩
  have HNA : Hid (0 < len → ∀ b off, ao = some ⟨b, off, none⟩ → b < w.heap.size) := ⟨fun h0 b off e => by
    rcases hr with h | ⟨b', off', e', hc⟩
    · omega
    · rw [e'] at e
      simp only [Option.some.injEq, Addr.mk.injEq] at e
      obtain ⟨rfl, _⟩ := e
      exact World.block_lt_of_cell? w ⟨b', off' + 0, none⟩ (hc 0 h0)⟩
  have hlen : (len : Int) ≤ 1048576 := by omega
  clear hr hbs hl
  go_enter Tryd.func26, Tryd.ntmps26
  go_wp2
  obtain ⟨rb, hrb⟩ : ∃ rb, w.heap.size = rb := ⟨_, rfl⟩
  have HRB : Hid (w.heap.size = rb) := ⟨hrb⟩
  generalize w.alloc (.cells #[.slice ao len cap, .int .i64 0, .bool true] 104) = W at *
  rw [hrb] at HS ⊢
  clear hrb
  go_loopw [5] (fun v wr => ∃ (t : Nat) (l : List Oq), Hid (RL w wr rb ao len cap bs t v l ∧ rdM len bs (len + 1 - t) t l = rdM len bs (len + 1) 0 [])) (fun _ wr => len - rdT wr rb)
  case atStart => exact ⟨0, [], ⟨HS.out, rfl⟩⟩
  case round =>
    obtain ⟨t, l, HW⟩ := hrel
    have hR := HW.out.1
    have c0 := hR.rd.c0
    have c1 := hR.rd.c1
    have c2 := hR.rd.c2
    have f1 := hR.rd.fz 1
    have f2 := hR.rd.fz 2
    have ht := hR.le
    by_cases hlt : t < len
    · obtain ⟨b, off, rfl, hcell⟩ : ∃ b off, ao = some ⟨b, off, none⟩ ∧ ∀ i, i < len → wr.cell? ⟨b, off + i, none⟩ = some (.int .u8 (bs i)) := by
        rcases hR.row with h | h
        · omega
        · exact h
      have q1 : (t : Int) < (len : Int) := by omega
      have hbb := HNA.out (by omega) b off rfl
      have hbr : b ≠ rb := by have := HRB.out; omega
      -- the place goes on by one
      have R1 := hR.rd.set1 ((t : Int) + 1)
      have T1 : Turn (fun k => k = rb) wr (wr.setCell ⟨rb, 1, none⟩ (.int .i64 ((t : Int) + 1))) := (Turn.refl (fun k => k = rb) wr).setCell ⟨rb, 1, none⟩ (.inl rfl) _
      have hct : (wr.setCell ⟨rb, 1, none⟩ (.int .i64 ((t : Int) + 1))).cell? ⟨b, off + t, none⟩ = some (.int .u8 (bs t)) := (World.cell?_of_block (T1.block b (World.block_lt_of_cell? _ _ (hcell t hlt)) hbr)).trans (hcell t hlt)
      have HRow1 : Hid (Row (wr.setCell ⟨rb, 1, none⟩ (.int .i64 ((t : Int) + 1))) (some ⟨b, off, none⟩) len bs) := ⟨hR.row.turn T1 fun _ b' off' e hk => by simp only [Option.some.injEq, Addr.mk.injEq] at e; exact hbr (e.1.trans hk)⟩
      have HOP : Hid _ := ⟨op_any rb (some ⟨b, off, none⟩) len cap (t + 1) bs (bs t) _ (by rw [show ((t + 1 : Nat) : Int) = (t : Int) + 1 by omega]; exact R1) HRow1.out (fun _ b' off' e => by simp only [Option.some.injEq, Addr.mk.injEq] at e; rw [← e.1]; exact hbr) HB.out.1 HB.out.2 (by omega) (HB.out.1 t).1 (HB.out.1 t).2⟩
      have HR1 : Hid _ := ⟨R1⟩
      have HT1 : Hid _ := ⟨T1⟩
      have d1 := R1.c1
      have hbt0 := (HB.out.1 t).1
      have hbt1 := (HB.out.1 t).2
      have HF : Hid (len + 1 - t = (len - t) + 1) := ⟨by omega⟩
      clear R1 T1 hcell
      have HRL : Hid _ := ⟨hR⟩
      clear hR
      go_upto_region 7 with (fail)
      generalize wr.setCell ⟨rb, 1, none⟩ (.int .i64 ((t : Int) + 1)) = W1 at *
      have HTT : Hid (∀ w2, Turn (fun k => k = rb) W1 w2 → Turn (fun k => k = rb) wr w2) := ⟨fun w2 h => HT1.out.trans h⟩
      have HBW : Hid (∀ w2, Turn (fun k => k = rb) W1 w2 → Below w.heap.size w w2) := ⟨fun w2 h => HRL.out.bel.trans ((HT1.out.trans h).below HRL.out.bel.size (fun k hk => by rw [hk]; exact HRL.out.new))⟩
      cases ho : opR len bs (bs t) (t + 1) with
      | none =>
        rw [ho] at HOP
        have HV : Hid (readE len bs = 130 ∧ readL len bs = []) := ⟨by rw [HE.out.1, ← HW.out.2, HF.out, rdM_none hlt ho]; rfl, by rw [HE.out.2, ← HW.out.2, HF.out, rdM_none hlt ho]; rfl⟩
        clear HW HRL
        generalize bs t = c at *
        go_upto_region 8 with (go_at_call 40; (with_reducible refine HOP.out.mono ?_); intro e w2 he; (obtain ⟨o, t2, he1, he2, he3⟩ := he); subst he1; have HR2 : Hid _ := ⟨he2⟩; have HT2 : Hid _ := ⟨he3⟩; clear he2 he3)
        have B2 : Below w2.heap.size w2 (w2.alloc (.cells #[.int .i64 o.k, .int .i64 o.r, .int .i64 o.n] 74)) := (Below.refl _ _).alloc (Nat.le_refl _) _
        have o2 := (HR2.out.bel B2).c2
        have HBB : Hid (Below w.heap.size w (w2.alloc (.cells #[.int .i64 o.k, .int .i64 o.r, .int .i64 o.n] 74))) := ⟨(HBW.out _ HT2.out).trans (B2.mono (HBW.out _ HT2.out).size)⟩
        clear B2
        generalize w2.alloc (.cells #[.int .i64 o.k, .int .i64 o.r, .int .i64 o.n] 74) = W3 at *
        go_wp2
        go_ret2
        exact ⟨_, by rw [HV.out.1]; rfl, by rw [HV.out.2]; exact OwnR.nil _ _, HBB.out⟩
      | some p =>
        obtain ⟨o, e1⟩ := p
        rw [ho] at HOP
        have hle := opR_le (by omega) ho
        cases hm : mayB o with
        | false =>
          have HV : Hid (readE len bs = 130 ∧ readL len bs = []) := ⟨by rw [HE.out.1, ← HW.out.2, HF.out, rdM_may hlt ho hm]; rfl, by rw [HE.out.2, ← HW.out.2, HF.out, rdM_may hlt ho hm]; rfl⟩
          have HM := may_any o.k o.r o.n
          rw [show mayB ⟨o.k, o.r, o.n⟩ = false from hm] at HM
          have HMM : Hid _ := ⟨HM⟩
          clear HW HRL HM
          generalize bs t = c at *
          go_upto_region 8 with (go_at_call 40; (with_reducible refine HOP.out.mono ?_); intro e w2 he; (obtain ⟨he1, he2, he3⟩ := he); subst he1; have HR2 : Hid _ := ⟨he2⟩; have HT2 : Hid _ := ⟨he3⟩; clear he2 he3)
          have B2 : Below w2.heap.size w2 (w2.alloc (.cells #[.int .i64 o.k, .int .i64 o.r, .int .i64 o.n] 74)) := (Below.refl _ _).alloc (Nat.le_refl _) _
          have o2 := (HR2.out.bel B2).c2
          have HBB : Hid (Below w.heap.size w (w2.alloc (.cells #[.int .i64 o.k, .int .i64 o.r, .int .i64 o.n] 74))) := ⟨(HBW.out _ HT2.out).trans (B2.mono (HBW.out _ HT2.out).size)⟩
          have x0 : (w2.alloc (.cells #[.int .i64 o.k, .int .i64 o.r, .int .i64 o.n] 74)).cell? ⟨w2.heap.size, 0, none⟩ = some (.int .i64 o.k) := by simp
          have x1 : (w2.alloc (.cells #[.int .i64 o.k, .int .i64 o.r, .int .i64 o.n] 74)).cell? ⟨w2.heap.size, 1, none⟩ = some (.int .i64 o.r) := by simp
          have x2 : (w2.alloc (.cells #[.int .i64 o.k, .int .i64 o.r, .int .i64 o.n] 74)).cell? ⟨w2.heap.size, 2, none⟩ = some (.int .i64 o.n) := by simp
          clear B2
          generalize w2.alloc (.cells #[.int .i64 o.k, .int .i64 o.r, .int .i64 o.n] 74) = W3 at *
          generalize w2.heap.size = g3 at *
          go_wp2_with (go_at_call 37; (with_reducible refine (HMM.out _).mono ?_); rintro e w4 ⟨he, hb4⟩; subst he; have HB4 : Hid _ := ⟨hb4⟩; clear hb4)
          go_ret2
          exact ⟨_, by rw [HV.out.1]; rfl, by rw [HV.out.2]; exact OwnR.nil _ _, HBB.out.trans (HB4.out.mono HBB.out.size)⟩
        | true =>
          have HM := may_any o.k o.r o.n
          rw [show mayB ⟨o.k, o.r, o.n⟩ = true from hm] at HM
          have HMM : Hid _ := ⟨HM⟩
          have HV6 : Hid (l.length = 4000 → readE len bs = 6 ∧ readL len bs = []) := ⟨fun h => ⟨by rw [HE.out.1, ← HW.out.2, HF.out, rdM_many hlt ho hm h]; rfl, by rw [HE.out.2, ← HW.out.2, HF.out, rdM_many hlt ho hm h]; rfl⟩⟩
          have HVm : Hid (¬ l.length = 4000 → rdM len bs (len + 1 - e1) e1 (l ++ [o]) = rdM len bs (len + 1) 0 []) := ⟨fun h => by rw [← HW.out.2, HF.out, rdM_more hlt ho hm h]; exact rdM_fuel len bs _ _ e1 _ (by omega) (by omega) hle.2⟩
          have HLen : Hid (∃ a c', u5 = .slice a l.length c') := ⟨by obtain ⟨a, c', h, _⟩ := HRL.out.own.any; exact ⟨a, c', h⟩⟩
          have HOwn : Hid _ := ⟨HRL.out.own⟩
          have HFew : Hid (l.length ≤ 4000 ∧ w.heap.size ≤ rb ∧ rb + 1 ≤ wr.heap.size) := ⟨HRL.out.few, HRL.out.new, HRL.out.rd.lt⟩
          have HRw : Hid (∀ w', Turn (fun k => k = rb) wr w' → Row w' (some ⟨b, off, none⟩) len bs) := ⟨fun w' h => HRL.out.row.turn h fun _ b' off' e hk => by simp only [Option.some.injEq, Addr.mk.injEq] at e; exact hbr (e.1.trans hk)⟩
          have hmt : rdT wr rb = t := HRL.out.rd.at'
          clear HW HRL HM
          generalize bs t = c at *
          go_upto_region 8 with (go_at_call 40; (with_reducible refine HOP.out.mono ?_); intro e w2 he; (obtain ⟨he1, he2, he3⟩ := he); subst he1; have HR2 : Hid _ := ⟨he2⟩; have HT2 : Hid _ := ⟨he3⟩; clear he2 he3)
          have B2 : Below w2.heap.size w2 (w2.alloc (.cells #[.int .i64 o.k, .int .i64 o.r, .int .i64 o.n] 74)) := (Below.refl _ _).alloc (Nat.le_refl _) _
          have HR3 : Hid _ := ⟨HR2.out.bel B2⟩
          have o2 := HR3.out.c2
          have HT3 : Hid (Turn (fun k => k = rb) wr (w2.alloc (.cells #[.int .i64 o.k, .int .i64 o.r, .int .i64 o.n] 74))) := ⟨(HTT.out _ HT2.out).alloc _⟩
          have HBB : Hid (Below w.heap.size w (w2.alloc (.cells #[.int .i64 o.k, .int .i64 o.r, .int .i64 o.n] 74))) := ⟨(HBW.out _ HT2.out).trans (B2.mono (HBW.out _ HT2.out).size)⟩
          have x0 : (w2.alloc (.cells #[.int .i64 o.k, .int .i64 o.r, .int .i64 o.n] 74)).cell? ⟨w2.heap.size, 0, none⟩ = some (.int .i64 o.k) := by simp
          have x1 : (w2.alloc (.cells #[.int .i64 o.k, .int .i64 o.r, .int .i64 o.n] 74)).cell? ⟨w2.heap.size, 1, none⟩ = some (.int .i64 o.r) := by simp
          have x2 : (w2.alloc (.cells #[.int .i64 o.k, .int .i64 o.r, .int .i64 o.n] 74)).cell? ⟨w2.heap.size, 2, none⟩ = some (.int .i64 o.n) := by simp
          clear B2
          generalize w2.alloc (.cells #[.int .i64 o.k, .int .i64 o.r, .int .i64 o.n] 74) = W3 at *
          generalize w2.heap.size = g3 at *
          obtain ⟨a5, c5, hu5⟩ := HLen.out
          subst hu5
          by_cases h6 : l.length = 4000
          · have h6' : ((l.length : Int) == 4000) = true := by simp; omega
            have HV : Hid _ := ⟨HV6.out h6⟩
            go_wp2_with (go_at_call 37; (with_reducible refine (HMM.out _).mono ?_); rintro e w4 ⟨he, hb4⟩; subst he; have HB4 : Hid _ := ⟨hb4⟩; clear hb4)
            go_ret2
            exact ⟨_, by rw [HV.out.1]; rfl, by rw [HV.out.2]; exact OwnR.nil _ _, HBB.out.trans (HB4.out.mono HBB.out.size)⟩
          · have h6' : ((l.length : Int) == 4000) = false := by simp; omega
            have HV : Hid _ := ⟨HVm.out h6⟩
            have HO3 : Hid (OwnR W3 (rb + 1) (.slice a5 l.length c5) l) := ⟨HOwn.out.turn HT3.out (fun k hk e => by omega)⟩
            have HRw3 : Hid _ := ⟨HRw.out _ HT3.out⟩
            have HSz : Hid (rb + 1 ≤ W3.heap.size) := ⟨HR3.out.lt⟩
            have HFw : Hid (l.length + 1 ≤ 4000) := ⟨by have := HFew.out.1; omega⟩
            generalize hll : l.length = nl at *
            go_wp2_with (first
              | (go_at_call 37; (with_reducible refine (HMM.out _).mono ?_); rintro e w4 ⟨he, hb4⟩; subst he; have HB4 : Hid _ := ⟨hb4⟩; have y0 := (hb4.cell (p := ⟨g3, 0, none⟩) (World.block_lt_of_cell? _ _ x0)).trans x0; have y1 := (hb4.cell (p := ⟨g3, 1, none⟩) (World.block_lt_of_cell? _ _ x1)).trans x1; have y2 := (hb4.cell (p := ⟨g3, 2, none⟩) (World.block_lt_of_cell? _ _ x2)).trans x2; clear hb4)
              | (at_builtin; refine append_opR _ rfl _ _ rfl (rb + 1) _ l o (HO3.out.bel HB4.out) rfl _ rfl rfl (by have := HFw.out; omega) (Nat.le_trans HSz.out HB4.out.size) ?_; intro v5 w5 ho5 hb5; have HO5 : Hid _ := ⟨ho5⟩; have HB5 : Hid _ := ⟨hb5⟩; clear ho5 hb5))
            have hd5 : RD w5 rb (.slice (some ⟨b, off, none⟩) len cap) (e1 : Int) true := by
              have h1 := HR3.out.bel HB4.out
              exact ⟨(HB5.out.block rb (by omega)).trans h1.blk⟩
            refine ⟨⟨e1, l ++ [o], ⟨⟨hd5, ?_, HO5.out, ?_, HFew.out.2.1, hle.2, ?_⟩, HV.out⟩⟩, ?_⟩
            · have h1 := HRw3.out.below HB4.out (Nat.le_refl _)
              rcases h1 with h | ⟨b', off', e, h⟩
              · exact .inl h
              · refine .inr ⟨b', off', e, fun i hi => ?_⟩
                simp only [Option.some.injEq, Addr.mk.injEq] at e
                obtain ⟨rfl, rfl, _⟩ := e
                have hlt : b < rb + 1 := by have := HFew.out.2.1; omega
                exact (HB5.out.cell (p := ⟨b, off + i, none⟩) hlt).trans (h i hi)
            · have h1 := HBB.out.trans (HB4.out.mono HBB.out.size)
              exact h1.trans (HB5.out.mono (by have := HFew.out.2.1; omega))
            · have := HFw.out
              simp
              omega
            · rw [hd5.at', hmt]
              omega
    · have HV : Hid (readE len bs = 0 ∧ readL len bs = l) := ⟨by rw [HE.out.1, ← HW.out.2, rdM_end hlt]; rfl, by rw [HE.out.2, ← HW.out.2, rdM_end hlt]; rfl⟩
      have q1 : ¬ (t : Int) < (len : Int) := by omega
      have HRL : Hid _ := ⟨hR⟩
      clear hR HW
      go_wp2
      go_ret2
      exact ⟨_, by rw [HV.out.1]; rfl, by rw [HV.out.2]; exact Own_low HRL.out.own (by have := HRL.out.new; omega), HRL.out.bel⟩
end Go.Proofs.YtgldijohpfihaaaDoor

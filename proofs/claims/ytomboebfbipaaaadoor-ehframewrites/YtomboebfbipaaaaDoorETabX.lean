/- Tables that may be: the program's Check of any tables. Tables' numbers that may be. Tables' ops that may be; the program's Check. -/
import Derived.Test.YtomboebfbipaaaaDoorELiveX
namespace Go.Proofs.YtomboebfbipaaaaDoor
open Go.ChangeShapes Go.WideShapes Go.ChangeAt Go.RowKit Go.Maps
set_option linter.unusedVariables false
set_option linter.unusedSimpArgs false

/-- A function's entry. -/
structure Fe where
  cie : Int
  beg : Int
  size : Int
  ops : List Oq
def Fe.zero : Fe := ⟨0, 0, 0, []⟩
def FeAt (w : World) (b off : Nat) (x : Fe) : Prop := ∃ a c, w.cell? ⟨b, off, none⟩ = some (.int .i64 x.cie) ∧ w.cell? ⟨b, off + 1, none⟩ = some (.int .i64 x.beg) ∧ w.cell? ⟨b, off + 2, none⟩ = some (.int .i64 x.size) ∧ w.cell? ⟨b, off + 3, none⟩ = some (.slice a x.ops.length c) ∧ IsOq w a c x.ops
theorem FeAt.bel {w w' : World} {b off : Nat} {x : Fe} (h : FeAt w b off x) (hb : Below w.heap.size w w') : FeAt w' b off x := by
  obtain ⟨a, c, h1, h2, h3, h4, h5⟩ := h
  exact ⟨a, c, up_bel h1 hb, up_bel h2 hb, up_bel h3 hb, up_bel h4 hb, h5.bel hb⟩
def Fs (w : World) (ao : Option Addr) (L : List Fe) : Prop := L.length = 0 ∨ ∃ b off, ao = some ⟨b, off, none⟩ ∧ ∀ i, i < L.length → FeAt w b (off + i * 4) (L.getD i Fe.zero)
theorem Fs.bel {w w' : World} {ao : Option Addr} {L : List Fe} (h : Fs w ao L) (hb : Below w.heap.size w w') : Fs w' ao L := by
  rcases h with h | ⟨b, off, e, h⟩
  · exact .inl h
  · exact .inr ⟨b, off, e, fun i hi => (h i hi).bel hb⟩
theorem fe_in {L : List Fe} {i : Nat} (h : i < L.length) : L.getD i Fe.zero ∈ L := by simp [h]

/-- Are there too many? -/
def tooB (c : List Ce) (f : List Fe) : Bool := decide (4000 < c.length) || (decide (4000 < f.length) || (c.any (fun x => decide (3992 < x.ini.length)) || f.any (fun x => decide (3992 < x.ops.length))))
theorem too_c {c : List Ce} {f : List Fe} {k : Nat} (hk : k < c.length) (h : 3992 < (c.getD k Ce.zero).ini.length) : tooB c f = true := by
  have : c.any (fun x => decide (3992 < x.ini.length)) = true := List.any_eq_true.2 ⟨_, ce_in hk, by simpa using h⟩
  unfold tooB; rw [this]; simp
theorem too_f {c : List Ce} {f : List Fe} {k : Nat} (hk : k < f.length) (h : 3992 < (f.getD k Fe.zero).ops.length) : tooB c f = true := by
  have : f.any (fun x => decide (3992 < x.ops.length)) = true := List.any_eq_true.2 ⟨_, fe_in hk, by simpa using h⟩
  unfold tooB; rw [this]; simp
theorem too_no {c : List Ce} {f : List Fe} (h1 : ¬ 4000 < c.length) (h2 : ¬ 4000 < f.length) (h3 : ∀ j, j < c.length → ¬ 3992 < (c.getD j Ce.zero).ini.length) (h4 : ∀ j, j < f.length → ¬ 3992 < (f.getD j Fe.zero).ops.length) : tooB c f = false := by
  have e3 : c.any (fun x => decide (3992 < x.ini.length)) = false := by
    rw [List.any_eq_false]
    intro x hx
    obtain ⟨j, hj, rfl⟩ := List.mem_iff_getElem.1 hx
    have := h3 j hj
    simp [hj] at this
    simp; omega
  have e4 : f.any (fun x => decide (3992 < x.ops.length)) = false := by
    rw [List.any_eq_false]
    intro x hx
    obtain ⟨j, hj, rfl⟩ := List.mem_iff_getElem.1 hx
    have := h4 j hj
    simp [hj] at this
    simp; omega
  unfold tooB; rw [e3, e4]
  simp; omega

set_option maxHeartbeats 1000000 in
theorem many_any (ac : Option Addr) (cc : Nat) (c : List Ce) (af : Option Addr) (cf : Nat) (f : List Fe) (w : World) (hC : Cs w ac c) (hF : Fs w af f) (hcl : c.length ≤ 140737488355328) (hfl : f.length ≤ 140737488355328) :
    Calls Tryd.prog 45 #[.slice ac c.length cc, .slice af f.length cf] w fun e w' => e = .returned (.bool (tooB c f)) ∧ Below w.heap.size w w' := by
  obtain ⟨B, hB⟩ : ∃ B, tooB c f = B := ⟨_, rfl⟩
  rw [hB]
  have HBq : Hid _ := ⟨hB⟩
  have HC : Hid _ := ⟨hC⟩
  have HF : Hid _ := ⟨hF⟩
  clear hB hC hF
  by_cases h4 : 4000 < c.length
  · have h4' : (4000 : Int) < (c.length : Int) := by omega
    have : B = true := by rw [← HBq.out]; unfold tooB; simp [h4]
    subst this
    go_enter Tryd.func45, Tryd.ntmps45
    go_wp2
    go_ret
    exact ⟨rfl, Below.refl _ _⟩
  have h4' : ¬ (4000 : Int) < (c.length : Int) := by omega
  by_cases h5 : 4000 < f.length
  · have h5' : (4000 : Int) < (f.length : Int) := by omega
    have : B = true := by rw [← HBq.out]; unfold tooB; simp [h5]
    subst this
    go_enter Tryd.func45, Tryd.ntmps45
    go_wp2
    go_ret
    exact ⟨rfl, Below.refl _ _⟩
  have h5' : ¬ (4000 : Int) < (f.length : Int) := by omega
  go_enter Tryd.func45, Tryd.ntmps45
  go_wp2
  go_loopw [19] (fun iv wr => ∃ k : Nat, k ≤ c.length ∧ iv = .int .i64 k ∧ Hid (Below w.heap.size w wr ∧ ∀ j, j < k → ¬ 3992 < (c.getD j Ce.zero).ini.length)) (fun iv _ => c.length - (intOf iv).toNat)
  case atStart => exact ⟨0, by omega, rfl, ⟨Below.refl _ _, fun j hj => by omega⟩⟩
  case round =>
    obtain ⟨k, hk, rfl, HW⟩ := hrel
    by_cases hlt : k < c.length
    · obtain ⟨b, off, rfl, hat⟩ : ∃ b off, ac = some ⟨b, off, none⟩ ∧ ∀ j, j < c.length → CeAt wr b (off + j * 2) (c.getD j Ce.zero) := by
        rcases HC.out.bel HW.out.1 with h | h
        · omega
        · exact h
      have q1 : (k : Int) < (c.length : Int) := by omega
      have q0 : (0 : Int) ≤ (k : Int) := by omega
      obtain ⟨a, cp, c0, c1, hI⟩ := hat k hlt
      by_cases hbig : 3992 < (c.getD k Ce.zero).ini.length
      · have hl' : (3992 : Int) < ((c.getD k Ce.zero).ini.length : Int) := by omega
        have : B = true := by rw [← HBq.out]; exact too_c hlt hbig
        subst this
        generalize (c.getD k Ce.zero) = x at *
        clear hat hI
        go_wp2
        go_ret
        exact ⟨rfl, HW.out.1.alloc HW.out.1.size _⟩
      · have hl' : ¬ (3992 : Int) < ((c.getD k Ce.zero).ini.length : Int) := by omega
        have HX : Hid (∀ j, j < k + 1 → ¬ 3992 < (c.getD j Ce.zero).ini.length) := ⟨fun j hj => by
          by_cases e : j = k
          · subst e; exact hbig
          · exact HW.out.2 j (by omega)⟩
        clear hat hI hbig
        generalize (c.getD k Ce.zero) = x at *
        go_wp2
        go_roundw
        case rel => exact ⟨k + 1, by omega, by go_num, ⟨HW.out.1.alloc HW.out.1.size _, HX.out⟩⟩
        case measure => simp [intOf]; omega
    · obtain rfl : k = c.length := by omega
      have q1 : ¬ (c.length : Int) < (c.length : Int) := by omega
      go_wp2
      go_loopw [30] (fun iv wq => ∃ k : Nat, k ≤ f.length ∧ iv = .int .i64 k ∧ Hid (Below w.heap.size w wq ∧ ∀ j, j < k → ¬ 3992 < (f.getD j Fe.zero).ops.length)) (fun iv _ => f.length - (intOf iv).toNat)
      case atStart => exact ⟨0, by omega, rfl, ⟨HW.out.1, fun j hj => by omega⟩⟩
      case round =>
        obtain ⟨k, hk2, rfl, HV⟩ := hrel
        by_cases hlt2 : k < f.length
        · obtain ⟨b, off, rfl, hat⟩ : ∃ b off, af = some ⟨b, off, none⟩ ∧ ∀ j, j < f.length → FeAt wr b (off + j * 4) (f.getD j Fe.zero) := by
            rcases HF.out.bel HV.out.1 with h | h
            · omega
            · exact h
          have q1 : (k : Int) < (f.length : Int) := by omega
          have q0 : (0 : Int) ≤ (k : Int) := by omega
          obtain ⟨a, cp, c0, c1, c2, c3, hI⟩ := hat k hlt2
          by_cases hbig : 3992 < (f.getD k Fe.zero).ops.length
          · have hl' : (3992 : Int) < ((f.getD k Fe.zero).ops.length : Int) := by omega
            have : B = true := by rw [← HBq.out]; exact too_f hlt2 hbig
            subst this
            generalize (f.getD k Fe.zero) = x at *
            clear hat hI
            go_wp2
            go_ret
            exact ⟨rfl, HV.out.1.alloc HV.out.1.size _⟩
          · have hl' : ¬ (3992 : Int) < ((f.getD k Fe.zero).ops.length : Int) := by omega
            have HX : Hid (∀ j, j < k + 1 → ¬ 3992 < (f.getD j Fe.zero).ops.length) := ⟨fun j hj => by
              by_cases e : j = k
              · subst e; exact hbig
              · exact HV.out.2 j (by omega)⟩
            clear hat hI hbig
            generalize (f.getD k Fe.zero) = x at *
            go_wp2
            go_roundw
            case rel => exact ⟨k + 1, by omega, by go_num, ⟨HV.out.1.alloc HV.out.1.size _, HX.out⟩⟩
            case measure => simp [intOf]; omega
        · obtain rfl : k = f.length := by omega
          have q2 : ¬ (f.length : Int) < (f.length : Int) := by omega
          have : B = false := by rw [← HBq.out]; exact too_no h4 h5 HW.out.2 HV.out.2
          subst this
          go_wp2
          go_ret
          exact ⟨rfl, HV.out.1⟩

/-- May a function's entry's numbers be? -/
def feB (n : Nat) (x : Fe) : Bool := decide (0 ≤ x.cie) && (decide (x.cie < (n : Int)) && (!awayB x.beg && (decide (0 ≤ x.size) && decide (x.size ≤ 1048576))))
def numsB (c : List Ce) (f : List Fe) : Bool := c.all (fun x => encB x.enc) && f.all (fun x => feB c.length x)
theorem fe_no {n : Nat} {x : Fe} (h : x.cie < 0 ∨ (n : Int) ≤ x.cie ∨ awayB x.beg = true ∨ x.size < 0 ∨ 1048576 < x.size) : feB n x = false := by
  cases hb : feB n x with
  | false => rfl
  | true =>
    simp [feB] at hb
    obtain ⟨a1, a2, a3, a4, a5⟩ := hb
    rcases h with h | h | h | h | h
    · omega
    · omega
    · rw [h] at a3; cases a3
    · omega
    · omega
theorem fe_yes {n : Nat} {x : Fe} (h1 : ¬ x.cie < 0) (h2 : ¬ (n : Int) ≤ x.cie) (h3 : awayB x.beg = false) (h4 : ¬ x.size < 0) (h5 : ¬ 1048576 < x.size) : feB n x = true := by
  simp [feB, h3]; omega
theorem nums_c {c : List Ce} {f : List Fe} {k : Nat} (hk : k < c.length) (h : encB (c.getD k Ce.zero).enc = false) : numsB c f = false := by
  have : c.all (fun x => encB x.enc) = false := by
    rw [List.all_eq_false]
    exact ⟨_, ce_in hk, by rw [h]; simp⟩
  unfold numsB; rw [this]; rfl
theorem nums_f {c : List Ce} {f : List Fe} {k : Nat} (hk : k < f.length) (h : feB c.length (f.getD k Fe.zero) = false) : numsB c f = false := by
  have : f.all (fun x => feB c.length x) = false := by
    rw [List.all_eq_false]
    exact ⟨_, fe_in hk, by rw [h]; simp⟩
  unfold numsB; rw [this]; simp
theorem nums_ok {c : List Ce} {f : List Fe} (h3 : ∀ j, j < c.length → encB (c.getD j Ce.zero).enc = true) (h4 : ∀ j, j < f.length → feB c.length (f.getD j Fe.zero) = true) : numsB c f = true := by
  have e3 : c.all (fun x => encB x.enc) = true := by
    rw [List.all_eq_true]
    intro x hx
    obtain ⟨j, hj, rfl⟩ := List.mem_iff_getElem.1 hx
    have := h3 j hj
    simpa [hj] using this
  have e4 : f.all (fun x => feB c.length x) = true := by
    rw [List.all_eq_true]
    intro x hx
    obtain ⟨j, hj, rfl⟩ := List.mem_iff_getElem.1 hx
    have := h4 j hj
    simpa [hj] using this
  unfold numsB; rw [e3, e4]; rfl

set_option maxHeartbeats 2000000 in
theorem nums_any (ac : Option Addr) (cc : Nat) (c : List Ce) (af : Option Addr) (cf : Nat) (f : List Fe) (w : World) (hC : Cs w ac c) (hF : Fs w af f) (hcl : c.length ≤ 140737488355328) (hfl : f.length ≤ 140737488355328) (hei : ∀ x ∈ c, -9223372036854775808 ≤ x.enc ∧ x.enc ≤ 9223372036854775807) :
    Calls Tryd.prog 46 #[.slice ac c.length cc, .slice af f.length cf] w fun e w' => e = .returned (.bool (numsB c f)) ∧ Below w.heap.size w w' := by
  obtain ⟨B, hB⟩ : ∃ B, numsB c f = B := ⟨_, rfl⟩
  rw [hB]
  have HBq : Hid _ := ⟨hB⟩
  have HC : Hid _ := ⟨hC⟩
  have HF : Hid _ := ⟨hF⟩
  have HEI : Hid _ := ⟨hei⟩
  clear hB hC hF hei
  go_enter Tryd.func46, Tryd.ntmps46
  go_wp2
  go_loopw [13] (fun iv wr => ∃ k : Nat, k ≤ c.length ∧ iv = .int .i64 k ∧ Hid (Below w.heap.size w wr ∧ ∀ j, j < k → encB (c.getD j Ce.zero).enc = true)) (fun iv _ => c.length - (intOf iv).toNat)
  case atStart => exact ⟨0, by omega, rfl, ⟨Below.refl _ _, fun j hj => by omega⟩⟩
  case round =>
    obtain ⟨k, hk, rfl, HW⟩ := hrel
    by_cases hlt : k < c.length
    · obtain ⟨b, off, rfl, hat⟩ : ∃ b off, ac = some ⟨b, off, none⟩ ∧ ∀ j, j < c.length → CeAt wr b (off + j * 2) (c.getD j Ce.zero) := by
        rcases HC.out.bel HW.out.1 with h | h
        · omega
        · exact h
      have q1 : (k : Int) < (c.length : Int) := by omega
      have q0 : (0 : Int) ≤ (k : Int) := by omega
      obtain ⟨a, cp, c0, c1, hI⟩ := hat k hlt
      have hin := HEI.out _ (ce_in hlt)
      have HE : Hid _ := ⟨fun w => encodingOf_any (c.getD k Ce.zero).enc w hin.1 hin.2⟩
      obtain ⟨z, s, g, d, hX⟩ := eX_some (c.getD k Ce.zero).enc
      rw [hX] at HE
      cases he : encB (c.getD k Ce.zero).enc
      · have : B = false := by rw [← HBq.out]; exact nums_c hlt he
        subst this
        rw [he] at HE
        clear hat hI he hin hX
        generalize (c.getD k Ce.zero) = x at *
        go_wp2_with (go_at_call 18; (with_reducible refine (HE.out _).mono ?_); rintro e w1 ⟨he, hb⟩; subst he; have HB : Hid (Below w.heap.size w w1) := ⟨(HW.out.1.alloc HW.out.1.size _).trans (hb.mono (by have := HW.out.1.size; simp; omega))⟩; clear hb)
        go_ret
        exact ⟨rfl, HB.out.alloc HB.out.size _⟩
      · have HX : Hid (∀ j, j < k + 1 → encB (c.getD j Ce.zero).enc = true) := ⟨fun j hj => by
          by_cases e : j = k
          · subst e; exact he
          · exact HW.out.2 j (by omega)⟩
        rw [he] at HE
        clear hat hI he hin hX
        generalize (c.getD k Ce.zero) = x at *
        go_wp2_with (go_at_call 18; (with_reducible refine (HE.out _).mono ?_); rintro e w1 ⟨he, hb⟩; subst he; have HB : Hid (Below w.heap.size w w1) := ⟨(HW.out.1.alloc HW.out.1.size _).trans (hb.mono (by have := HW.out.1.size; simp; omega))⟩; clear hb)
        go_roundw
        case rel => exact ⟨k + 1, by omega, by go_num, ⟨HB.out.alloc HB.out.size _, HX.out⟩⟩
        case measure => simp [intOf]; omega
    · obtain rfl : k = c.length := by omega
      have q1 : ¬ (c.length : Int) < (c.length : Int) := by omega
      go_wp2
      go_loopw [28] (fun iv wq => ∃ k : Nat, k ≤ f.length ∧ iv = .int .i64 k ∧ Hid (Below w.heap.size w wq ∧ ∀ j, j < k → feB c.length (f.getD j Fe.zero) = true)) (fun iv _ => f.length - (intOf iv).toNat)
      case atStart => exact ⟨0, by omega, rfl, ⟨HW.out.1, fun j hj => by omega⟩⟩
      case round =>
        obtain ⟨k, hk2, rfl, HV⟩ := hrel
        by_cases hlt2 : k < f.length
        · obtain ⟨b, off, rfl, hat⟩ : ∃ b off, af = some ⟨b, off, none⟩ ∧ ∀ j, j < f.length → FeAt wr b (off + j * 4) (f.getD j Fe.zero) := by
            rcases HF.out.bel HV.out.1 with h | h
            · omega
            · exact h
          have q1 : (k : Int) < (f.length : Int) := by omega
          have q0 : (0 : Int) ≤ (k : Int) := by omega
          obtain ⟨a, cp, c0, c1, c2, c3, hI⟩ := hat k hlt2
          have HA : Hid _ := ⟨isAddress_any (f.getD k Fe.zero).beg⟩
          by_cases g1 : (f.getD k Fe.zero).cie < 0
          · have : B = false := by rw [← HBq.out]; exact nums_f hlt2 (fe_no (.inl g1))
            subst this
            clear hat hI
            generalize (f.getD k Fe.zero) = x at *
            go_wp2_with (first
              | (go_at_call 19; (with_reducible refine (HA.out _).mono ?_); rintro e wn ⟨he, hwn⟩; subst he; subst wn))
            go_ret
            exact ⟨rfl, HV.out.1.alloc HV.out.1.size _⟩
          by_cases g2 : (c.length : Int) ≤ (f.getD k Fe.zero).cie
          · have : B = false := by rw [← HBq.out]; exact nums_f hlt2 (fe_no (.inr (.inl g2)))
            subst this
            clear hat hI
            generalize (f.getD k Fe.zero) = x at *
            go_wp2_with (first
              | (go_at_call 19; (with_reducible refine (HA.out _).mono ?_); rintro e wn ⟨he, hwn⟩; subst he; subst wn))
            go_ret
            exact ⟨rfl, HV.out.1.alloc HV.out.1.size _⟩
          obtain ⟨aw, haw⟩ : ∃ a, awayB (f.getD k Fe.zero).beg = a := ⟨_, rfl⟩
          rw [haw] at HA
          cases aw
          rotate_left
          · have : B = false := by rw [← HBq.out]; exact nums_f hlt2 (fe_no (.inr (.inr (.inl haw))))
            subst this
            clear hat hI
            generalize (f.getD k Fe.zero) = x at *
            go_wp2_with (first
              | (go_at_call 19; (with_reducible refine (HA.out _).mono ?_); rintro e wn ⟨he, hwn⟩; subst he; subst wn))
            go_ret
            exact ⟨rfl, HV.out.1.alloc HV.out.1.size _⟩
          by_cases g4 : (f.getD k Fe.zero).size < 0
          · have : B = false := by rw [← HBq.out]; exact nums_f hlt2 (fe_no (.inr (.inr (.inr (.inl g4)))))
            subst this
            clear hat hI
            generalize (f.getD k Fe.zero) = x at *
            go_wp2_with (first
              | (go_at_call 19; (with_reducible refine (HA.out _).mono ?_); rintro e wn ⟨he, hwn⟩; subst he; subst wn))
            go_ret
            exact ⟨rfl, HV.out.1.alloc HV.out.1.size _⟩
          by_cases g5 : 1048576 < (f.getD k Fe.zero).size
          · have : B = false := by rw [← HBq.out]; exact nums_f hlt2 (fe_no (.inr (.inr (.inr (.inr g5)))))
            subst this
            clear hat hI
            generalize (f.getD k Fe.zero) = x at *
            go_wp2_with (first
              | (go_at_call 19; (with_reducible refine (HA.out _).mono ?_); rintro e wn ⟨he, hwn⟩; subst he; subst wn))
            go_ret
            exact ⟨rfl, HV.out.1.alloc HV.out.1.size _⟩
          have HX : Hid (∀ j, j < k + 1 → feB c.length (f.getD j Fe.zero) = true) := ⟨fun j hj => by
            by_cases e : j = k
            · subst e; exact fe_yes g1 g2 haw g4 g5
            · exact HV.out.2 j (by omega)⟩
          clear hat hI haw
          generalize (f.getD k Fe.zero) = x at *
          go_wp2_with (first
            | (go_at_call 19; (with_reducible refine (HA.out _).mono ?_); rintro e wn ⟨he, hwn⟩; subst he; subst wn))
          go_roundw
          case rel => exact ⟨k + 1, by omega, by go_num, ⟨HV.out.1.alloc HV.out.1.size _, HX.out⟩⟩
          case measure => simp [intOf]; omega
        · obtain rfl : k = f.length := by omega
          have q2 : ¬ (f.length : Int) < (f.length : Int) := by omega
          have : B = true := by rw [← HBq.out]; exact nums_ok HW.out.2 HV.out.2
          subst this
          go_wp2
          go_ret
          exact ⟨rfl, HV.out.1⟩

theorem ix_cie (b off n c k : Nat) (hk : k < n) (W : World) : (Instr.indexAt 39 (.slice (some ⟨b, off, none⟩) n c) (.int .i64 (k : Int))).run Tryd.prog W = .ok (.pointer (some ⟨b, off + k * 2, none⟩)) W := by
  have hk' : (k : Int) < (n : Int) := by omega
  have hi : (Tryd.prog.info? 76).map (·.size) = some 2 := by kernel_rfl
  cases hq : Tryd.prog.info? 76 with
  | none => simp [hq] at hi
  | some i =>
    have hi1 : i.size = 2 := by simpa [hq] using hi
    simp [Instr.indexAt, run_underlying Tryd.underlying39, asIntOf, sizeOf, typeInfo, hq, hi1, caddr_add, hk]
theorem load_ops {w : World} {p : Addr} {ao : Option Addr} {n c : Nat} (hc : w.cell? p = some (.slice ao n c)) : (loadVar 55 p).run Tryd.prog w = .ok (.slice ao n c) w := by
  simp [loadVar, isAgg, run_underlying Tryd.underlying55, go_sem, hc]
/-- A function's entry's ops' error. -/
def feE (c : List Ce) (x : Fe) : Int := rowsE (c.getD x.cie.toNat Ce.zero).ini x.ops x.size
def opsB (c : List Ce) (f : List Fe) : Bool := c.all (fun x => rowsE x.ini [] 0 == 0) && f.all (fun x => feE c x == 0)
theorem ops_c {c : List Ce} {f : List Fe} {k : Nat} (hk : k < c.length) (h : rowsE (c.getD k Ce.zero).ini [] 0 ≠ 0) : opsB c f = false := by
  have : c.all (fun x => rowsE x.ini [] 0 == 0) = false := by
    rw [List.all_eq_false]
    exact ⟨_, ce_in hk, by simpa using h⟩
  unfold opsB; rw [this]; rfl
theorem ops_f {c : List Ce} {f : List Fe} {k : Nat} (hk : k < f.length) (h : feE c (f.getD k Fe.zero) ≠ 0) : opsB c f = false := by
  have : f.all (fun x => feE c x == 0) = false := by
    rw [List.all_eq_false]
    exact ⟨_, fe_in hk, by simpa using h⟩
  unfold opsB; rw [this]; simp
theorem ops_ok {c : List Ce} {f : List Fe} (h3 : ∀ j, j < c.length → rowsE (c.getD j Ce.zero).ini [] 0 = 0) (h4 : ∀ j, j < f.length → feE c (f.getD j Fe.zero) = 0) : opsB c f = true := by
  have e3 : c.all (fun x => rowsE x.ini [] 0 == 0) = true := by
    rw [List.all_eq_true]
    intro x hx
    obtain ⟨j, hj, rfl⟩ := List.mem_iff_getElem.1 hx
    have := h3 j hj
    simpa [hj] using this
  have e4 : f.all (fun x => feE c x == 0) = true := by
    rw [List.all_eq_true]
    intro x hx
    obtain ⟨j, hj, rfl⟩ := List.mem_iff_getElem.1 hx
    have := h4 j hj
    simpa [hj] using this
  unfold opsB; rw [e3, e4]; rfl
theorem fe_in1 {n : Nat} {x : Fe} (h : feB n x = true) : 0 ≤ x.cie := by simp [feB] at h; exact h.1
theorem fe_in2 {n : Nat} {x : Fe} (h : feB n x = true) : x.cie < (n : Int) := by simp [feB] at h; exact h.2.1
theorem fe_in3 {n : Nat} {x : Fe} (h : feB n x = true) : 0 ≤ x.size ∧ x.size ≤ 1048576 := by simp [feB] at h; exact ⟨h.2.2.2.1, h.2.2.2.2⟩

set_option maxHeartbeats 4000000 in
set_option maxRecDepth 10000 in
theorem ops_any14 (ac : Option Addr) (cc : Nat) (c : List Ce) (af : Option Addr) (cf : Nat) (f : List Fe) (w : World) (hC : Cs w ac c) (hF : Fs w af f) (hcl : c.length ≤ 140737488355328) (hfl : f.length ≤ 140737488355328) (hci : ∀ x ∈ c, x.ini.length ≤ 3992) (hfi : ∀ x ∈ f, x.ops.length ≤ 3992) (hnf : ∀ x ∈ f, feB c.length x = true) (hz : Fz w) :
    Calls Tryd.prog 47 #[.slice ac c.length cc, .slice af f.length cf] w fun e w' => e = .returned (.bool (opsB c f)) ∧ Below w.heap.size w w' := by
  obtain ⟨B, hB⟩ : ∃ B, opsB c f = B := ⟨_, rfl⟩
  rw [hB]
  have HBq : Hid _ := ⟨hB⟩
  have HC : Hid _ := ⟨hC⟩
  have HF : Hid _ := ⟨hF⟩
  have HZ : Hid _ := ⟨hz⟩
  have HCI : Hid _ := ⟨hci⟩
  have HFI : Hid _ := ⟨hfi⟩
  have HNF : Hid _ := ⟨hnf⟩
  clear hB hC hF hz hci hfi hnf
  go_enter Tryd.func47, Tryd.ntmps47
  go_wp2
  go_loopw [11] (fun iv wr => ∃ k : Nat, k ≤ c.length ∧ iv = .int .i64 k ∧ Hid (Below w.heap.size w wr ∧ ∀ j, j < k → rowsE (c.getD j Ce.zero).ini [] 0 = 0)) (fun iv _ => c.length - (intOf iv).toNat)
  case atStart => exact ⟨0, by omega, rfl, ⟨Below.refl _ _, fun j hj => by omega⟩⟩
  case round =>
    obtain ⟨k, hk, rfl, HW⟩ := hrel
    by_cases hlt : k < c.length
    · obtain ⟨b, off, rfl, hat⟩ : ∃ b off, ac = some ⟨b, off, none⟩ ∧ ∀ j, j < c.length → CeAt wr b (off + j * 2) (c.getD j Ce.zero) := by
        rcases HC.out.bel HW.out.1 with h | h
        · omega
        · exact h
      have q1 : (k : Int) < (c.length : Int) := by omega
      have q0 : (0 : Int) ≤ (k : Int) := by omega
      obtain ⟨a, cp, c0, c1, hI⟩ := hat k hlt
      have hl := HCI.out _ (ce_in hlt)
      have hbw : Below w.heap.size w (wr.alloc (.cells #[.int .i64 (c.getD k Ce.zero).enc, .slice a (c.getD k Ce.zero).ini.length cp] 76)) := HW.out.1.alloc HW.out.1.size _
      obtain ⟨EE, hEE⟩ : ∃ E, rowsE (c.getD k Ce.zero).ini [] 0 = E := ⟨_, rfl⟩
      have HP : Hid (Calls Tryd.prog 66 #[.slice a (c.getD k Ce.zero).ini.length cp, .slice none 0 0, .int .i64 0] (wr.alloc (.cells #[.int .i64 (c.getD k Ce.zero).enc, .slice a (c.getD k Ce.zero).ini.length cp] 76)) fun e w' => e = .returned (.int .i64 EE) ∧ Below (wr.alloc (.cells #[.int .i64 (c.getD k Ce.zero).enc, .slice a (c.getD k Ce.zero).ini.length cp] 76)).heap.size (wr.alloc (.cells #[.int .i64 (c.getD k Ce.zero).enc, .slice a (c.getD k Ce.zero).ini.length cp] 76)) w') := ⟨by
        have hp := pcheck a cp (c.getD k Ce.zero).ini none 0 [] 0 (wr.alloc (.cells #[.int .i64 (c.getD k Ce.zero).enc, .slice a (c.getD k Ce.zero).ini.length cp] 76)) (by omega) (by simp) (by omega) (hI.bel ((Below.refl _ _).alloc (Nat.le_refl _) _)) ⟨.inl rfl, fun _ => ⟨rfl, rfl⟩, by simp, by simp⟩ (HZ.out.bel hbw HZ.out.z)
        rw [hEE] at hp
        exact hp⟩
      have HB0 : Hid _ := ⟨hbw⟩
      by_cases h0 : EE = 0
      · have HX : Hid (∀ j, j < k + 1 → rowsE (c.getD j Ce.zero).ini [] 0 = 0) := ⟨fun j hj => by
          by_cases e : j = k
          · subst e; rw [hEE]; exact h0
          · exact HW.out.2 j (by omega)⟩
        subst h0
        clear hat hI hbw hEE
        generalize (c.getD k Ce.zero) = x at *
        go_wp2_with (go_at_call 66; (with_reducible refine HP.out.mono ?_); rintro e w1 ⟨he, hb⟩; subst he; have HB : Hid (Below w.heap.size w w1) := ⟨HB0.out.trans (hb.mono HB0.out.size)⟩; clear hb)
        go_roundw
        case rel => exact ⟨k + 1, by omega, by go_num, ⟨HB.out, HX.out⟩⟩
        case measure => simp [intOf]; omega
      · have : B = false := by rw [← HBq.out]; exact ops_c hlt (by rw [hEE]; exact h0)
        subst this
        have n1 : (EE != 0) = true := by simpa using h0
        have n2 : (EE == 0) = false := by simpa using h0
        clear hat hI hbw hEE
        generalize (c.getD k Ce.zero) = x at *
        go_wp2_with (go_at_call 66; (with_reducible refine HP.out.mono ?_); rintro e w1 ⟨he, hb⟩; subst he; have HB : Hid (Below w.heap.size w w1) := ⟨HB0.out.trans (hb.mono HB0.out.size)⟩; clear hb)
        go_ret
        exact ⟨rfl, HB.out⟩
    · obtain rfl : k = c.length := by omega
      have q1 : ¬ (c.length : Int) < (c.length : Int) := by omega
      go_wp2
      go_loopw [22] (fun iv wq => ∃ k : Nat, k ≤ f.length ∧ iv = .int .i64 k ∧ Hid (Below w.heap.size w wq ∧ ∀ j, j < k → feE c (f.getD j Fe.zero) = 0)) (fun iv _ => f.length - (intOf iv).toNat)
      case atStart => exact ⟨0, by omega, rfl, ⟨HW.out.1, fun j hj => by omega⟩⟩
      case round =>
        obtain ⟨k, hk2, rfl, HV⟩ := hrel
        by_cases hlt2 : k < f.length
        · obtain ⟨b, off, rfl, hat⟩ : ∃ b off, af = some ⟨b, off, none⟩ ∧ ∀ j, j < f.length → FeAt wr b (off + j * 4) (f.getD j Fe.zero) := by
            rcases HF.out.bel HV.out.1 with h | h
            · omega
            · exact h
          have q1 : (k : Int) < (f.length : Int) := by omega
          have q0 : (0 : Int) ≤ (k : Int) := by omega
          obtain ⟨a, cp, c0, c1, c2, c3, hI⟩ := hat k hlt2
          have hnf := HNF.out
          have hfi := HFI.out
          have hci := HCI.out
          obtain ⟨q, hq⟩ := Int.eq_ofNat_of_zero_le (fe_in1 (hnf _ (fe_in hlt2)))
          have hqc : q < c.length := by have := fe_in2 (hnf _ (fe_in hlt2)); omega
          obtain ⟨bc, oc, hac, hatc⟩ : ∃ b off, ac = some ⟨b, off, none⟩ ∧ ∀ j, j < c.length → CeAt wr b (off + j * 2) (c.getD j Ce.zero) := by
            rcases HC.out.bel HV.out.1 with h | h
            · omega
            · exact h
          subst hac
          obtain ⟨ai, ci, d0, d1, hIc⟩ := hatc q hqc
          have hlc := hci _ (ce_in hqc)
          have hlf := hfi _ (fe_in hlt2)
          have hsz := fe_in3 (hnf _ (fe_in hlt2))
          have hE : rowsE (c.getD q Ce.zero).ini (f.getD k Fe.zero).ops (f.getD k Fe.zero).size = feE c (f.getD k Fe.zero) := by unfold feE; rw [hq]; rfl
          have hb1 : Below wr.heap.size wr (wr.alloc (.cells #[.int .i64 (f.getD k Fe.zero).cie, .int .i64 (f.getD k Fe.zero).beg, .int .i64 (f.getD k Fe.zero).size, .slice a (f.getD k Fe.zero).ops.length cp] 57)) := (Below.refl _ _).alloc (Nat.le_refl _) _
          have HP : Hid _ := ⟨pcheck ai ci (c.getD q Ce.zero).ini a cp (f.getD k Fe.zero).ops (f.getD k Fe.zero).size (wr.alloc (.cells #[.int .i64 (f.getD k Fe.zero).cie, .int .i64 (f.getD k Fe.zero).beg, .int .i64 (f.getD k Fe.zero).size, .slice a (f.getD k Fe.zero).ops.length cp] 57)).drew (by omega) (by omega) (by omega) (hIc.bel hb1.drew) (hI.bel hb1.drew) (HZ.out.bel (HV.out.1.trans (hb1.drew.mono HV.out.1.size)) HZ.out.z)⟩
          have K3 := Bk.new wr #[.int .i64 (f.getD k Fe.zero).cie, .int .i64 (f.getD k Fe.zero).beg, .int .i64 (f.getD k Fe.zero).size, .slice a (f.getD k Fe.zero).ops.length cp] 57
          have d1 := up_bel d1 hb1
          have HB3 : Hid (Below w.heap.size w (wr.alloc (.cells #[.int .i64 (f.getD k Fe.zero).cie, .int .i64 (f.getD k Fe.zero).beg, .int .i64 (f.getD k Fe.zero).size, .slice a (f.getD k Fe.zero).ops.length cp] 57)).drew) := ⟨HV.out.1.trans (hb1.drew.mono HV.out.1.size)⟩
          rw [hE] at HP
          obtain ⟨EE, hEE0⟩ : ∃ E, feE c (f.getD k Fe.zero) = E := ⟨_, rfl⟩
          rw [hEE0] at HP
          by_cases h0 : EE = 0
          · have HX : Hid (∀ j, j < k + 1 → feE c (f.getD j Fe.zero) = 0) := ⟨fun j hj => by
              by_cases e : j = k
              · subst e; rw [hEE0]; exact h0
              · exact HV.out.2 j (by omega)⟩
            have hEE : (EE != 0) = false := by rw [h0]; rfl
            have HQ : Hid ((f.getD k Fe.zero).cie = (q : Int)) := ⟨hq⟩
            clear hat hI hatc hIc hb1 hEE0 hE hnf hfi hci hlc hlf hsz d0 h0 hq
            generalize (f.getD k Fe.zero) = x at *
            generalize (c.getD q Ce.zero) = y at *
            go_upto_region 10 with (fail)
            refine wp_region_held_drew (S := fun u => Bk u wr.heap.size 57 #[.int .i64 x.cie, .int .i64 x.beg, .int .i64 x.size, .slice a x.ops.length cp] ∧ u.cell? ⟨bc, oc + q * 2 + 1, none⟩ = some (.slice ai y.ini.length ci)) (by kernel_rfl) ⟨⟨K3.hp⟩, d1⟩ (fun hS => ?_)
            refine wpAnyH_take (i := 0) (v := .slice (some ⟨bc, oc, none⟩) c.length cc) rfl (by kernel_rfl) (by kernel_rfl) (by kernel_rfl) (fun _ _ _ h => h) (Or.inl ⟨by kernel_rfl, fun u hu => by kernel_rfl⟩) hS ?_
            simp only [Act.put, List.getElem_toArray, List.getElem_cons_succ, List.getElem_cons_zero, List.setIfInBounds_toArray, List.set_cons_zero, List.set_cons_succ]
            refine wpAnyH_take (i := 1) (v := .pointer (some ⟨wr.heap.size, 0, none⟩)) rfl (by kernel_rfl) (by kernel_rfl) (by kernel_rfl) (fun _ _ _ h => h) (Or.inl ⟨by kernel_rfl, fun u hu => by kernel_rfl⟩) hS ?_
            simp only [Act.put, List.getElem_toArray, List.getElem_cons_succ, List.getElem_cons_zero, List.setIfInBounds_toArray, List.set_cons_zero, List.set_cons_succ]
            refine wpAnyH_take (i := 2) (v := .int .i64 (q : Int)) rfl (by kernel_rfl) (by kernel_rfl) (by kernel_rfl) (fun _ _ _ h => h) (Or.inl ⟨by kernel_rfl, fun u hu => exec_loadV (t := 3) (p := ⟨wr.heap.size, 0, none⟩) rfl (by kernel_rfl) (load_i64 (by rw [← HQ.out]; exact hu.1.cell 0 rfl))⟩) hS ?_
            simp only [Act.put, List.getElem_toArray, List.getElem_cons_succ, List.getElem_cons_zero, List.setIfInBounds_toArray, List.set_cons_zero, List.set_cons_succ]
            refine wpAnyH_take (i := 3) (v := .pointer (some ⟨bc, oc + q * 2, none⟩)) rfl (by kernel_rfl) (by kernel_rfl) (by kernel_rfl) (fun _ _ _ h => h) (Or.inl ⟨by kernel_rfl, fun u hu => exec_ix rfl (by kernel_rfl) (by kernel_rfl) (ix_cie bc oc c.length cc q hqc u)⟩) hS ?_
            simp only [Act.put, List.getElem_toArray, List.getElem_cons_succ, List.getElem_cons_zero, List.setIfInBounds_toArray, List.set_cons_zero, List.set_cons_succ]
            refine wpAnyH_take (i := 4) (v := .pointer (some ⟨bc, oc + q * 2 + 1, none⟩)) rfl (by kernel_rfl) (by kernel_rfl) (by kernel_rfl) (fun _ _ _ h => h) (Or.inl ⟨by kernel_rfl, fun u hu => by kernel_rfl⟩) hS ?_
            simp only [Act.put, List.getElem_toArray, List.getElem_cons_succ, List.getElem_cons_zero, List.setIfInBounds_toArray, List.set_cons_zero, List.set_cons_succ]
            refine wpAnyH_take (i := 5) (v := .slice ai y.ini.length ci) rfl (by kernel_rfl) (by kernel_rfl) (by kernel_rfl) (fun _ _ _ h => h) (Or.inl ⟨by kernel_rfl, fun u hu => exec_loadV (t := 55) (p := ⟨bc, oc + q * 2 + 1, none⟩) rfl (by kernel_rfl) (load_ops hu.2)⟩) hS ?_
            simp only [Act.put, List.getElem_toArray, List.getElem_cons_succ, List.getElem_cons_zero, List.setIfInBounds_toArray, List.set_cons_zero, List.set_cons_succ]
            refine wpAnyH_take (i := 6) (v := .pointer (some ⟨wr.heap.size, 3, none⟩)) rfl (by kernel_rfl) (by kernel_rfl) (by kernel_rfl) (fun _ _ _ h => h) (Or.inl ⟨by kernel_rfl, fun u hu => by kernel_rfl⟩) hS ?_
            simp only [Act.put, List.getElem_toArray, List.getElem_cons_succ, List.getElem_cons_zero, List.setIfInBounds_toArray, List.set_cons_zero, List.set_cons_succ]
            refine wpAnyH_take (i := 7) (v := .slice a x.ops.length cp) rfl (by kernel_rfl) (by kernel_rfl) (by kernel_rfl) (fun _ _ _ h => h) (Or.inl ⟨by kernel_rfl, fun u hu => exec_loadV (t := 55) (p := ⟨wr.heap.size, 3, none⟩) rfl (by kernel_rfl) (load_ops (hu.1.cell 3 rfl))⟩) hS ?_
            simp only [Act.put, List.getElem_toArray, List.getElem_cons_succ, List.getElem_cons_zero, List.setIfInBounds_toArray, List.set_cons_zero, List.set_cons_succ]
            refine wpAnyH_take (i := 8) (v := .pointer (some ⟨wr.heap.size, 2, none⟩)) rfl (by kernel_rfl) (by kernel_rfl) (by kernel_rfl) (fun _ _ _ h => h) (Or.inl ⟨by kernel_rfl, fun u hu => by kernel_rfl⟩) hS ?_
            simp only [Act.put, List.getElem_toArray, List.getElem_cons_succ, List.getElem_cons_zero, List.setIfInBounds_toArray, List.set_cons_zero, List.set_cons_succ]
            refine wpAnyH_take (i := 9) (v := .int .i64 x.size) rfl (by kernel_rfl) (by kernel_rfl) (by kernel_rfl) (fun _ _ _ h => h) (Or.inl ⟨by kernel_rfl, fun u hu => exec_loadV (t := 3) (p := ⟨wr.heap.size, 2, none⟩) rfl (by kernel_rfl) (load_i64 (hu.1.cell 2 rfl))⟩) hS ?_
            simp only [Act.put, List.getElem_toArray, List.getElem_cons_succ, List.getElem_cons_zero, List.setIfInBounds_toArray, List.set_cons_zero, List.set_cons_succ]
            refine wpAnyH_ready (rs := [10]) (by kernel_rfl) (by simp) ?_
            refine AllReadyH.cons rfl (fun K hK => ?_) AllReadyH.nil
            simp only [List.getElem_toArray, List.getElem_cons_succ, List.getElem_cons_zero]
            refine wp_if (by kernel_rfl) ?_
            refine wp_enter (f := 66) (args := #[.slice ai y.ini.length ci, .slice a x.ops.length cp, .int .i64 x.size]) (by kernel_rfl) HP.out ?_
            rintro e w4 ⟨rfl, hb4⟩
            refine ⟨_, rfl, ?_⟩
            have HB4 : Hid (Below w.heap.size w w4) := ⟨HB3.out.trans (hb4.mono HB3.out.size)⟩
            refine hK.out _ _ ⟨(show Bk ((wr.alloc (.cells #[.int .i64 x.cie, .int .i64 x.beg, .int .i64 x.size, .slice a x.ops.length cp] 57))).drew _ _ _ from ⟨K3.hp⟩).bel hb4 (by exact K3.lt), up_bel (show ((wr.alloc (.cells #[.int .i64 x.cie, .int .i64 x.beg, .int .i64 x.size, .slice a x.ops.length cp] 57))).drew.cell? _ = _ from d1) hb4⟩ (fun hS => ?_)
            clear hK hb4
            simp only [Act.put, List.getElem_toArray, List.getElem_cons_succ, List.getElem_cons_zero, List.setIfInBounds_toArray, List.set_cons_zero, List.set_cons_succ]
            refine wpAnyH_take (i := 11) (v := .bool false) rfl (by kernel_rfl) (by kernel_rfl) (by kernel_rfl) (fun _ _ _ h => h) (Or.inl ⟨by kernel_rfl, fun u hu => Eq.trans (b := .ok (.value (.bool (EE != 0))) u) (by kernel_rfl) (by rw [hEE])⟩) hS ?_
            simp only [Act.put, List.getElem_toArray, List.getElem_cons_succ, List.getElem_cons_zero, List.setIfInBounds_toArray, List.set_cons_zero, List.set_cons_succ]
            refine wpAnyH_done (by kernel_rfl) ?_ _
            go_wp2_with fail
            go_roundw
            case rel => exact ⟨k + 1, by omega, by go_num, ⟨HB4.out, HX.out⟩⟩
            case measure => simp [intOf]; omega
          · have : B = false := by rw [← HBq.out]; exact ops_f hlt2 (by rw [hEE0]; exact h0)
            subst this
            have hEE : (EE != 0) = true := by simpa using h0
            have HQ : Hid ((f.getD k Fe.zero).cie = (q : Int)) := ⟨hq⟩
            clear hat hI hatc hIc hb1 hEE0 hE hnf hfi hci hlc hlf hsz d0 h0 hq
            generalize (f.getD k Fe.zero) = x at *
            generalize (c.getD q Ce.zero) = y at *
            go_upto_region 10 with (fail)
            refine wp_region_held_drew (S := fun u => Bk u wr.heap.size 57 #[.int .i64 x.cie, .int .i64 x.beg, .int .i64 x.size, .slice a x.ops.length cp] ∧ u.cell? ⟨bc, oc + q * 2 + 1, none⟩ = some (.slice ai y.ini.length ci)) (by kernel_rfl) ⟨⟨K3.hp⟩, d1⟩ (fun hS => ?_)
            refine wpAnyH_take (i := 0) (v := .slice (some ⟨bc, oc, none⟩) c.length cc) rfl (by kernel_rfl) (by kernel_rfl) (by kernel_rfl) (fun _ _ _ h => h) (Or.inl ⟨by kernel_rfl, fun u hu => by kernel_rfl⟩) hS ?_
            simp only [Act.put, List.getElem_toArray, List.getElem_cons_succ, List.getElem_cons_zero, List.setIfInBounds_toArray, List.set_cons_zero, List.set_cons_succ]
            refine wpAnyH_take (i := 1) (v := .pointer (some ⟨wr.heap.size, 0, none⟩)) rfl (by kernel_rfl) (by kernel_rfl) (by kernel_rfl) (fun _ _ _ h => h) (Or.inl ⟨by kernel_rfl, fun u hu => by kernel_rfl⟩) hS ?_
            simp only [Act.put, List.getElem_toArray, List.getElem_cons_succ, List.getElem_cons_zero, List.setIfInBounds_toArray, List.set_cons_zero, List.set_cons_succ]
            refine wpAnyH_take (i := 2) (v := .int .i64 (q : Int)) rfl (by kernel_rfl) (by kernel_rfl) (by kernel_rfl) (fun _ _ _ h => h) (Or.inl ⟨by kernel_rfl, fun u hu => exec_loadV (t := 3) (p := ⟨wr.heap.size, 0, none⟩) rfl (by kernel_rfl) (load_i64 (by rw [← HQ.out]; exact hu.1.cell 0 rfl))⟩) hS ?_
            simp only [Act.put, List.getElem_toArray, List.getElem_cons_succ, List.getElem_cons_zero, List.setIfInBounds_toArray, List.set_cons_zero, List.set_cons_succ]
            refine wpAnyH_take (i := 3) (v := .pointer (some ⟨bc, oc + q * 2, none⟩)) rfl (by kernel_rfl) (by kernel_rfl) (by kernel_rfl) (fun _ _ _ h => h) (Or.inl ⟨by kernel_rfl, fun u hu => exec_ix rfl (by kernel_rfl) (by kernel_rfl) (ix_cie bc oc c.length cc q hqc u)⟩) hS ?_
            simp only [Act.put, List.getElem_toArray, List.getElem_cons_succ, List.getElem_cons_zero, List.setIfInBounds_toArray, List.set_cons_zero, List.set_cons_succ]
            refine wpAnyH_take (i := 4) (v := .pointer (some ⟨bc, oc + q * 2 + 1, none⟩)) rfl (by kernel_rfl) (by kernel_rfl) (by kernel_rfl) (fun _ _ _ h => h) (Or.inl ⟨by kernel_rfl, fun u hu => by kernel_rfl⟩) hS ?_
            simp only [Act.put, List.getElem_toArray, List.getElem_cons_succ, List.getElem_cons_zero, List.setIfInBounds_toArray, List.set_cons_zero, List.set_cons_succ]
            refine wpAnyH_take (i := 5) (v := .slice ai y.ini.length ci) rfl (by kernel_rfl) (by kernel_rfl) (by kernel_rfl) (fun _ _ _ h => h) (Or.inl ⟨by kernel_rfl, fun u hu => exec_loadV (t := 55) (p := ⟨bc, oc + q * 2 + 1, none⟩) rfl (by kernel_rfl) (load_ops hu.2)⟩) hS ?_
            simp only [Act.put, List.getElem_toArray, List.getElem_cons_succ, List.getElem_cons_zero, List.setIfInBounds_toArray, List.set_cons_zero, List.set_cons_succ]
            refine wpAnyH_take (i := 6) (v := .pointer (some ⟨wr.heap.size, 3, none⟩)) rfl (by kernel_rfl) (by kernel_rfl) (by kernel_rfl) (fun _ _ _ h => h) (Or.inl ⟨by kernel_rfl, fun u hu => by kernel_rfl⟩) hS ?_
            simp only [Act.put, List.getElem_toArray, List.getElem_cons_succ, List.getElem_cons_zero, List.setIfInBounds_toArray, List.set_cons_zero, List.set_cons_succ]
            refine wpAnyH_take (i := 7) (v := .slice a x.ops.length cp) rfl (by kernel_rfl) (by kernel_rfl) (by kernel_rfl) (fun _ _ _ h => h) (Or.inl ⟨by kernel_rfl, fun u hu => exec_loadV (t := 55) (p := ⟨wr.heap.size, 3, none⟩) rfl (by kernel_rfl) (load_ops (hu.1.cell 3 rfl))⟩) hS ?_
            simp only [Act.put, List.getElem_toArray, List.getElem_cons_succ, List.getElem_cons_zero, List.setIfInBounds_toArray, List.set_cons_zero, List.set_cons_succ]
            refine wpAnyH_take (i := 8) (v := .pointer (some ⟨wr.heap.size, 2, none⟩)) rfl (by kernel_rfl) (by kernel_rfl) (by kernel_rfl) (fun _ _ _ h => h) (Or.inl ⟨by kernel_rfl, fun u hu => by kernel_rfl⟩) hS ?_
            simp only [Act.put, List.getElem_toArray, List.getElem_cons_succ, List.getElem_cons_zero, List.setIfInBounds_toArray, List.set_cons_zero, List.set_cons_succ]
            refine wpAnyH_take (i := 9) (v := .int .i64 x.size) rfl (by kernel_rfl) (by kernel_rfl) (by kernel_rfl) (fun _ _ _ h => h) (Or.inl ⟨by kernel_rfl, fun u hu => exec_loadV (t := 3) (p := ⟨wr.heap.size, 2, none⟩) rfl (by kernel_rfl) (load_i64 (hu.1.cell 2 rfl))⟩) hS ?_
            simp only [Act.put, List.getElem_toArray, List.getElem_cons_succ, List.getElem_cons_zero, List.setIfInBounds_toArray, List.set_cons_zero, List.set_cons_succ]
            refine wpAnyH_ready (rs := [10]) (by kernel_rfl) (by simp) ?_
            refine AllReadyH.cons rfl (fun K hK => ?_) AllReadyH.nil
            simp only [List.getElem_toArray, List.getElem_cons_succ, List.getElem_cons_zero]
            refine wp_if (by kernel_rfl) ?_
            refine wp_enter (f := 66) (args := #[.slice ai y.ini.length ci, .slice a x.ops.length cp, .int .i64 x.size]) (by kernel_rfl) HP.out ?_
            rintro e w4 ⟨rfl, hb4⟩
            refine ⟨_, rfl, ?_⟩
            have HB4 : Hid (Below w.heap.size w w4) := ⟨HB3.out.trans (hb4.mono HB3.out.size)⟩
            refine hK.out _ _ ⟨(show Bk ((wr.alloc (.cells #[.int .i64 x.cie, .int .i64 x.beg, .int .i64 x.size, .slice a x.ops.length cp] 57))).drew _ _ _ from ⟨K3.hp⟩).bel hb4 (by exact K3.lt), up_bel (show ((wr.alloc (.cells #[.int .i64 x.cie, .int .i64 x.beg, .int .i64 x.size, .slice a x.ops.length cp] 57))).drew.cell? _ = _ from d1) hb4⟩ (fun hS => ?_)
            clear hK hb4
            simp only [Act.put, List.getElem_toArray, List.getElem_cons_succ, List.getElem_cons_zero, List.setIfInBounds_toArray, List.set_cons_zero, List.set_cons_succ]
            refine wpAnyH_take (i := 11) (v := .bool true) rfl (by kernel_rfl) (by kernel_rfl) (by kernel_rfl) (fun _ _ _ h => h) (Or.inl ⟨by kernel_rfl, fun u hu => Eq.trans (b := .ok (.value (.bool (EE != 0))) u) (by kernel_rfl) (by rw [hEE])⟩) hS ?_
            simp only [Act.put, List.getElem_toArray, List.getElem_cons_succ, List.getElem_cons_zero, List.setIfInBounds_toArray, List.set_cons_zero, List.set_cons_succ]
            refine wpAnyH_done (by kernel_rfl) ?_ _
            go_wp2_with fail
            go_ret
            exact ⟨rfl, HB4.out⟩
        · obtain rfl : k = f.length := by omega
          have q2 : ¬ (f.length : Int) < (f.length : Int) := by omega
          have : B = true := by rw [← HBq.out]; exact ops_ok HW.out.2 HV.out.2
          subst this
          go_wp2
          go_ret
          exact ⟨rfl, HV.out.1⟩

/-- Check's error. -/
def checkE (c : List Ce) (f : List Fe) : Int := if tooB c f = true then 6 else if numsB c f = false then 140 else if opsB c f = false then 130 else 0
theorem too_cl {c : List Ce} {f : List Fe} (h : tooB c f = false) : (∀ x ∈ c, x.ini.length ≤ 3992) ∧ (∀ x ∈ f, x.ops.length ≤ 3992) ∧ c.length ≤ 4000 ∧ f.length ≤ 4000 := by
  simp [tooB] at h
  exact ⟨fun x hx => h.2.2.1 x hx, fun x hx => h.2.2.2 x hx, by omega, by omega⟩
theorem nums_in {c : List Ce} {f : List Fe} (h : numsB c f = true) : (∀ x ∈ c, encB x.enc = true) ∧ ∀ x ∈ f, feB c.length x = true := by
  simp [numsB] at h
  exact ⟨h.1, h.2⟩
theorem check_any (ac : Option Addr) (cc : Nat) (c : List Ce) (af : Option Addr) (cf : Nat) (f : List Fe) (w : World) (hC : Cs w ac c) (hF : Fs w af f) (hcl : c.length ≤ 140737488355328) (hfl : f.length ≤ 140737488355328) (hei : ∀ x ∈ c, -9223372036854775808 ≤ x.enc ∧ x.enc ≤ 9223372036854775807) (hz : Fz w) :
    Calls Tryd.prog 15 #[.slice ac c.length cc, .slice af f.length cf] w fun e w' => e = .returned (.int .i64 (checkE c f)) ∧ Below w.heap.size w w' := by
  have H1 : Hid _ := ⟨many_any ac cc c af cf f w hC hF hcl hfl⟩
  have H2 : Hid (∀ w1, Below w.heap.size w w1 → Calls Tryd.prog 46 #[.slice ac c.length cc, .slice af f.length cf] w1 fun e w' => e = .returned (.bool (numsB c f)) ∧ Below w1.heap.size w1 w') := ⟨fun w1 hb => nums_any ac cc c af cf f w1 (hC.bel hb) (hF.bel hb) hcl hfl hei⟩
  have H3 : Hid (tooB c f = false → numsB c f = true → ∀ w1, Below w.heap.size w w1 → Calls Tryd.prog 47 #[.slice ac c.length cc, .slice af f.length cf] w1 fun e w' => e = .returned (.bool (opsB c f)) ∧ Below w1.heap.size w1 w') := ⟨fun ht hn w1 hb => ops_any14 ac cc c af cf f w1 (hC.bel hb) (hF.bel hb) hcl hfl (too_cl ht).1 (too_cl ht).2.1 (nums_in hn).2 (hz.bel hb hz.z)⟩
  have hE : checkE c f = if tooB c f = true then 6 else if numsB c f = false then 140 else if opsB c f = false then 130 else 0 := rfl
  rw [hE]
  clear hC hF hei hz hE
  generalize tooB c f = b1 at *
  generalize numsB c f = b2 at *
  generalize opsB c f = b3 at *
  cases b1
  · have H3' : Hid _ := ⟨H3.out rfl⟩
    cases b2
    · go_enter Tryd.func15, Tryd.ntmps15
      go_wp2_with (first
        | (go_at_call 45; (with_reducible refine H1.out.mono ?_); rintro e w1 ⟨he, hb⟩; subst he; have B1 : Hid (Below w.heap.size w w1) := ⟨hb⟩; clear hb)
        | (go_at_call 46; (with_reducible refine (H2.out _ B1.out).mono ?_); rintro e w2 ⟨he, hb⟩; subst he; have B2 : Hid (Below w.heap.size w w2) := ⟨B1.out.trans (hb.mono B1.out.size)⟩; clear hb))
      go_ret
      exact ⟨rfl, B2.out⟩
    · have H4 : Hid _ := ⟨H3'.out rfl⟩
      cases b3
      all_goals
        go_enter Tryd.func15, Tryd.ntmps15
        go_wp2_with (first
          | (go_at_call 45; (with_reducible refine H1.out.mono ?_); rintro e w1 ⟨he, hb⟩; subst he; have B1 : Hid (Below w.heap.size w w1) := ⟨hb⟩; clear hb)
          | (go_at_call 46; (with_reducible refine (H2.out _ B1.out).mono ?_); rintro e w2 ⟨he, hb⟩; subst he; have B2 : Hid (Below w.heap.size w w2) := ⟨B1.out.trans (hb.mono B1.out.size)⟩; clear hb)
          | (go_at_call 47; (with_reducible refine (H4.out _ B2.out).mono ?_); rintro e w3 ⟨he, hb⟩; subst he; have B3 : Hid (Below w.heap.size w w3) := ⟨B2.out.trans (hb.mono B2.out.size)⟩; clear hb))
        go_ret
        exact ⟨rfl, B3.out⟩
  · go_enter Tryd.func15, Tryd.ntmps15
    go_wp2_with (go_at_call 45; (with_reducible refine H1.out.mono ?_); rintro e w1 ⟨he, hb⟩; subst he; have B1 : Hid (Below w.heap.size w w1) := ⟨hb⟩; clear hb)
    go_ret
    exact ⟨rfl, B1.out⟩
end Go.Proofs.YtomboebfbipaaaaDoor

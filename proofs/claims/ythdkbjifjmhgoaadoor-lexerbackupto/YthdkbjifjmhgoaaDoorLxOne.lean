/- The document's one token. -/
import Derived.Test.YthdkbjifjmhgoaaDoorLxSign
namespace Go.Proofs.YthdkbjifjmhgoaaDoor
open Go.ChangeShapes Go.WideShapes Go.ChangeAt Go.RowKit
set_option linter.unusedVariables false
set_option linter.unusedSimpArgs false

/-- A token's value, with its line. -/
abbrev Tok.val (t : Tok) (line : Int) : Value := .agg #[.int .i64 t.k, .int .i64 line, .int .i64 t.n, .string (St t.t)]
/-- One's three results. -/
def One3 (m : Option (Tok × Nat)) (e : Ending) : Prop :=
  match m with
  | none => ∃ (a b c : Int) (s : ByteArray) (n : Int), e = .returned (.tuple #[.agg #[.int .i64 a, .int .i64 b, .int .i64 c, .string s], .int .i64 n, .bool false])
  | some p => e = .returned (.tuple #[p.1.val 0, .int .i64 p.2, .bool true])

theorem one_c (s : ByteArray) (h0 : 0 < s.size) : oneM (lo s) =
    if s[0] = 59 then some (⟨6, 0, []⟩, 1)
    else if isDig s[0] = true ∨ s[0] = 39 then (numM (lo s)).map fun p => (⟨2, wrap64 p.1, []⟩, p.2)
    else if s[0] = 34 then (quoM (lo s)).map fun p => (⟨3, 0, p.1⟩, p.2)
    else if s[0] = 37 then if regN ((lo s).drop 1) = 0 then none else some (⟨5, 0, ((lo s).drop 1).take (regN ((lo s).drop 1))⟩, 1 + regN ((lo s).drop 1))
    else if isIn s[0] = true then if wordN (lo s) ≤ 255 then some (⟨1, 0, (lo s).take (wordN (lo s))⟩, wordN (lo s)) else none
    else if signN (lo s) = 0 then none else some (⟨4, 0, (lo s).take (signN (lo s))⟩, signN (lo s)) := by
  have e := lo_cons s h0
  unfold oneM
  conv => lhs; rw [e]
  simp only
  rw [← e]

theorem res_tok (tmps : Array Value) (W : World) (g : Nat) (a b c d : Value) (hp : tmps.getD 2 undef = .pointer (some ⟨g, 0, none⟩)) (c0 : W.cell? ⟨g, 0, none⟩ = some a) (c1 : W.cell? ⟨g, 1, none⟩ = some b) (c2 : W.cell? ⟨g, 2, none⟩ = some c) (c3 : W.cell? ⟨g, 3, none⟩ = some d) :
    (results Tryd.f37 tmps).run Tryd.prog W = .ok (.tuple #[.agg #[a, b, c, d], tmps.getD 3 undef, tmps.getD 4 undef]) W := by
  have hp' : tmps[2]?.getD undef = .pointer (some ⟨g, 0, none⟩) := by simpa using hp
  simp [results, Tryd.results37, hp', asAddr, loadVar, isAgg, run_underlying Tryd.underlying44, go_sem, c0, c1, c2, c3]

abbrev tokZ : Obj := .cells #[.int .i64 0, .int .i64 0, .int .i64 0, .string ⟨#[]⟩] 44
/-- The token's block, behind a call. -/
structure TB4 (w : World) (g : Nat) : Prop where
  c0 : w.cell? ⟨g, 0, none⟩ = some (.int .i64 0)
  c1 : w.cell? ⟨g, 1, none⟩ = some (.int .i64 0)
  c2 : w.cell? ⟨g, 2, none⟩ = some (.int .i64 0)
  c3 : w.cell? ⟨g, 3, none⟩ = some (.string ⟨#[]⟩)
  fz : ∀ j, w.frozen? ⟨g, j, none⟩ = false
theorem TB4.of {w w1 : World} (hb : Below (w.alloc tokZ).heap.size (w.alloc tokZ) w1) : TB4 w1 w.heap.size := by
  have e : ∀ o, w1.cell? ⟨w.heap.size, o, none⟩ = (w.alloc tokZ).cell? ⟨w.heap.size, o, none⟩ := fun o => hb.cell (p := ⟨w.heap.size, o, none⟩) (by simp)
  have hblk := hb.block w.heap.size (by simp)
  refine ⟨(e 0).trans (by simp), (e 1).trans (by simp), (e 2).trans (by simp), (e 3).trans (by simp), fun j => ?_⟩
  simp only [World.frozen?]
  rw [hblk, heap_alloc_new]
  rfl

theorem rone_end (s : ByteArray) (w : World) (h0 : 0 < s.size) (hl : s.size ≤ 8796093022208) (h : s[0] = 59) :
    Calls Tryd.prog 37 #[.string s] w fun e w' => One3 (oneM (lo s)) e ∧ Below w.heap.size w w' := by
  have hN := one_c s h0
  rw [if_pos h] at hN
  rw [hN]
  have q : ((s[0].toNat : Int) == 59) = true := by rw [h]; rfl
  have h0i : (0 : Int) < (s.size : Int) := by omega
  clear hN h
  go_enter Tryd.func37, Tryd.ntmps37
  go_wp2
  refine bodyPost_ret (res_tok _ _ w.heap.size _ _ _ _ rfl (by simp; rfl) (by simp; rfl) (by simp; rfl) (by simp; rfl)) rfl ?_
  exact ⟨rfl, (Below.refl _ _).alloc (Nat.le_refl _) _⟩

theorem one_no {a b c : Int} {s : ByteArray} {n : Int} {d : Bool} (hd : d = false) : One3 none (.returned (.tuple #[.agg #[.int .i64 a, .int .i64 b, .int .i64 c, .string s], .int .i64 n, .bool d])) := by
  subst hd; exact ⟨_, _, _, _, _, rfl⟩
theorem one_yes {k v : Int} {l : List UInt8} {s : ByteArray} {n : Nat} {d : Bool} (hd : d = true) (hs : s = St l) : One3 (some (⟨k, v, l⟩, n)) (.returned (.tuple #[.agg #[.int .i64 k, .int .i64 0, .int .i64 v, .string s], .int .i64 n, .bool d])) := by
  subst hd; subst hs; exact rfl
theorem sign_le (s : ByteArray) (h0 : 0 < s.size) : signN (lo s) ≤ s.size := by
  rw [sign_c s h0]
  by_cases h1 : 1 < s.size
  · split
    · omega
    · split <;> omega
  · have hd : (lo s).drop 1 = [] := List.drop_of_length_le (by rw [lo_len]; omega)
    rw [hd]
    simp only [List.head?_nil, reduceCtorEq, and_false, or_false, if_false]
    split <;> omega
theorem res_set (tmps : Array Value) (w1 : World) (g : Nat) (a b c d : Value) (hp : tmps.getD 2 undef = .pointer (some ⟨g, 0, none⟩)) (T : TB4 w1 g) :
    (results Tryd.f37 tmps).run Tryd.prog ((((w1.setCell ⟨g, 0, none⟩ a).setCell ⟨g, 1, none⟩ b).setCell ⟨g, 2, none⟩ c).setCell ⟨g, 3, none⟩ d) = .ok (.tuple #[.agg #[a, b, c, d], tmps.getD 3 undef, tmps.getD 4 undef]) ((((w1.setCell ⟨g, 0, none⟩ a).setCell ⟨g, 1, none⟩ b).setCell ⟨g, 2, none⟩ c).setCell ⟨g, 3, none⟩ d) :=
  res_tok tmps _ g a b c d hp (by simp [go_sem, T.c0]) (by simp [go_sem, T.c1]) (by simp [go_sem, T.c2]) (by simp [go_sem, T.c3])
theorem bel4 {w w1 : World} (hb : Below (w.alloc tokZ).heap.size (w.alloc tokZ) w1) (a b c d : Value) : Below w.heap.size w ((((w1.setCell ⟨w.heap.size, 0, none⟩ a).setCell ⟨w.heap.size, 1, none⟩ b).setCell ⟨w.heap.size, 2, none⟩ c).setCell ⟨w.heap.size, 3, none⟩ d) :=
  (((((((Below.refl _ _).alloc (Nat.le_refl _) tokZ).trans (hb.mono (by simp))).setCell (Nat.le_refl _) _).setCell (Nat.le_refl _) _).setCell (Nat.le_refl _) _).setCell (Nat.le_refl _) _)

set_option maxHeartbeats 4000000 in
set_option maxRecDepth 10000 in
theorem rone_num (s : ByteArray) (w : World) (h0 : 0 < s.size) (hl : s.size ≤ 8796093022208) (h59 : ¬ s[0] = 59) (h : isDig s[0] = true ∨ s[0] = 39) :
    Calls Tryd.prog 37 #[.string s] w fun e w' => One3 (oneM (lo s)) e ∧ Below w.heap.size w w' := by
  have hN := one_c s h0
  have h0i : (0 : Int) < (s.size : Int) := by omega
  rw [if_neg h59, if_pos h] at hN
  rw [hN]
  have q59 : ((s[0].toNat : Int) == 59) = false := by rw [beq_eq_false_iff_ne]; intro h; exact h59 (UInt8.toNat_inj.1 (by show s[0].toNat = 59; omega))
  have HD : Hid (∀ w, Calls Tryd.prog 53 #[.int .u8 (s[0].toNat : Int)] w fun e w' => e = .returned (.bool (isDig s[0])) ∧ w' = w) := ⟨fun w => rdigit_any _ w⟩
  have HN : Hid (∀ w, Calls Tryd.prog 54 #[.string s] w fun e w' => Num3 (numM (lo s)) e ∧ Below w.heap.size w w') := ⟨fun w => rnumber_any s w h0 (by omega)⟩
  have q39 : isDig s[0] = false → ((s[0].toNat : Int) == 39) = true := fun hd => by
    rcases h with h | h
    · rw [hd] at h; cases h
    · rw [h]; rfl
  clear hN h h59
  generalize numM (lo s) = M at *
  generalize isDig s[0] = dg at *
  cases M with
  | none =>
    cases dg
    · have q39 := q39 rfl
      go_enter Tryd.func37, Tryd.ntmps37
      go_wp2_with (first
        | (go_at_call 53; (with_reducible refine (HD.out _).mono ?_); rintro e w' ⟨rfl, hw'⟩; subst w')
        | (go_at_call 54; (with_reducible refine (HN.out _).mono ?_); rintro e w1 ⟨⟨v, n, rfl⟩, hb1⟩; have HB : Hid _ := ⟨hb1⟩; obtain ⟨d0, d1, d2, d3, fz⟩ := TB4.of hb1; have f0 := fz 0; have f1 := fz 1; have f2 := fz 2; have f3 := fz 3; clear hb1 fz))
      refine bodyPost_ret (res_set _ w1 w.heap.size _ _ _ _ rfl (TB4.of HB.out)) rfl ?_
      exact ⟨⟨_, _, _, _, _, rfl⟩, bel4 HB.out _ _ _ _⟩
    · clear q39
      go_enter Tryd.func37, Tryd.ntmps37
      go_wp2_with (first
        | (go_at_call 53; (with_reducible refine (HD.out _).mono ?_); rintro e w' ⟨rfl, hw'⟩; subst w')
        | (go_at_call 54; (with_reducible refine (HN.out _).mono ?_); rintro e w1 ⟨⟨v, n, rfl⟩, hb1⟩; have HB : Hid _ := ⟨hb1⟩; obtain ⟨d0, d1, d2, d3, fz⟩ := TB4.of hb1; have f0 := fz 0; have f1 := fz 1; have f2 := fz 2; have f3 := fz 3; clear hb1 fz))
      refine bodyPost_ret (res_set _ w1 w.heap.size _ _ _ _ rfl (TB4.of HB.out)) rfl ?_
      exact ⟨⟨_, _, _, _, _, rfl⟩, bel4 HB.out _ _ _ _⟩
  | some p =>
    obtain ⟨v, n⟩ := p
    dsimp only [Num3] at HN
    cases dg
    · have q39 := q39 rfl
      go_enter Tryd.func37, Tryd.ntmps37
      go_wp2_with (first
        | (go_at_call 53; (with_reducible refine (HD.out _).mono ?_); rintro e w' ⟨rfl, hw'⟩; subst w')
        | (go_at_call 54; (with_reducible refine (HN.out _).mono ?_); rintro e w1 ⟨rfl, hb1⟩; have HB : Hid _ := ⟨hb1⟩; obtain ⟨d0, d1, d2, d3, fz⟩ := TB4.of hb1; have f0 := fz 0; have f1 := fz 1; have f2 := fz 2; have f3 := fz 3; clear hb1 fz))
      refine bodyPost_ret (res_set _ w1 w.heap.size _ _ _ _ rfl (TB4.of HB.out)) rfl ?_
      exact ⟨rfl, bel4 HB.out _ _ _ _⟩
    · clear q39
      go_enter Tryd.func37, Tryd.ntmps37
      go_wp2_with (first
        | (go_at_call 53; (with_reducible refine (HD.out _).mono ?_); rintro e w' ⟨rfl, hw'⟩; subst w')
        | (go_at_call 54; (with_reducible refine (HN.out _).mono ?_); rintro e w1 ⟨rfl, hb1⟩; have HB : Hid _ := ⟨hb1⟩; obtain ⟨d0, d1, d2, d3, fz⟩ := TB4.of hb1; have f0 := fz 0; have f1 := fz 1; have f2 := fz 2; have f3 := fz 3; clear hb1 fz))
      refine bodyPost_ret (res_set _ w1 w.heap.size _ _ _ _ rfl (TB4.of HB.out)) rfl ?_
      exact ⟨rfl, bel4 HB.out _ _ _ _⟩

set_option maxHeartbeats 4000000 in
set_option maxRecDepth 10000 in
theorem rone_quo (s : ByteArray) (w : World) (h0 : 0 < s.size) (hl : s.size ≤ 8796093022208) (h59 : ¬ s[0] = 59) (hd : isDig s[0] = false) (h34 : s[0] = 34) :
    Calls Tryd.prog 37 #[.string s] w fun e w' => One3 (oneM (lo s)) e ∧ Below w.heap.size w w' := by
  have hN := one_c s h0
  have h0i : (0 : Int) < (s.size : Int) := by omega
  rw [if_neg h59, if_neg (by rw [hd, h34]; simp), if_pos h34] at hN
  rw [hN]
  have q59 : ((s[0].toNat : Int) == 59) = false := by rw [beq_eq_false_iff_ne]; intro h; exact h59 (UInt8.toNat_inj.1 (by show s[0].toNat = 59; omega))
  have q34 : ((s[0].toNat : Int) == 34) = true := by rw [h34]; rfl
  have q39 : ((s[0].toNat : Int) == 39) = false := by rw [h34]; rfl
  have HD : Hid (∀ w, Calls Tryd.prog 53 #[.int .u8 (s[0].toNat : Int)] w fun e w' => e = .returned (.bool (isDig s[0])) ∧ w' = w) := ⟨fun w => rdigit_any _ w⟩
  rw [hd] at HD
  have HN : Hid (∀ w, Calls Tryd.prog 55 #[.string s] w fun e w' => e = .returned (quoV (quoM (lo s))) ∧ Below w.heap.size w w') := ⟨fun w => rquoted_any s w hl⟩
  clear hN h34 h59 hd
  generalize quoM (lo s) = M at *
  cases M with
  | none =>
    dsimp only [quoV] at HN
    go_enter Tryd.func37, Tryd.ntmps37
    go_wp2_with (first
      | (go_at_call 53; (with_reducible refine (HD.out _).mono ?_); rintro e w' ⟨rfl, hw'⟩; subst w')
      | (go_at_call 55; (with_reducible refine (HN.out _).mono ?_); rintro e w1 ⟨rfl, hb1⟩; have HB : Hid _ := ⟨hb1⟩; obtain ⟨d0, d1, d2, d3, fz⟩ := TB4.of hb1; have f0 := fz 0; have f1 := fz 1; have f2 := fz 2; have f3 := fz 3; clear hb1 fz))
    refine bodyPost_ret (res_set _ w1 w.heap.size _ _ _ _ rfl (TB4.of HB.out)) rfl ?_
    exact ⟨⟨_, _, _, _, _, rfl⟩, bel4 HB.out _ _ _ _⟩
  | some p =>
    obtain ⟨v, n⟩ := p
    dsimp only [quoV] at HN
    go_enter Tryd.func37, Tryd.ntmps37
    go_wp2_with (first
      | (go_at_call 53; (with_reducible refine (HD.out _).mono ?_); rintro e w' ⟨rfl, hw'⟩; subst w')
      | (go_at_call 55; (with_reducible refine (HN.out _).mono ?_); rintro e w1 ⟨rfl, hb1⟩; have HB : Hid _ := ⟨hb1⟩; obtain ⟨d0, d1, d2, d3, fz⟩ := TB4.of hb1; have f0 := fz 0; have f1 := fz 1; have f2 := fz 2; have f3 := fz 3; clear hb1 fz))
    refine bodyPost_ret (res_set _ w1 w.heap.size _ _ _ _ rfl (TB4.of HB.out)) rfl ?_
    exact ⟨rfl, bel4 HB.out _ _ _ _⟩

set_option maxHeartbeats 4000000 in
set_option maxRecDepth 10000 in
theorem rone_name (s : ByteArray) (w : World) (h0 : 0 < s.size) (hl : s.size ≤ 8796093022208) (h59 : ¬ s[0] = 59) (hd : isDig s[0] = false) (h39 : ¬ s[0] = 39) (h34 : ¬ s[0] = 34) (h37 : ¬ s[0] = 37) (hi : isIn s[0] = true) :
    Calls Tryd.prog 37 #[.string s] w fun e w' => One3 (oneM (lo s)) e ∧ Below w.heap.size w w' := by
  have hN := one_c s h0
  have h0i : (0 : Int) < (s.size : Int) := by omega
  rw [if_neg h59, if_neg (fun h => h.elim (fun h => by rw [hd] at h; cases h) h39), if_neg h34, if_neg h37, if_pos hi] at hN
  rw [hN]
  have q59 : ((s[0].toNat : Int) == 59) = false := by rw [beq_eq_false_iff_ne]; intro h; exact h59 (UInt8.toNat_inj.1 (by show s[0].toNat = 59; omega))
  have q34 : ((s[0].toNat : Int) == 34) = false := by rw [beq_eq_false_iff_ne]; intro h; exact h34 (UInt8.toNat_inj.1 (by show s[0].toNat = 34; omega))
  have q39 : ((s[0].toNat : Int) == 39) = false := by rw [beq_eq_false_iff_ne]; intro h; exact h39 (UInt8.toNat_inj.1 (by show s[0].toNat = 39; omega))
  have q37 : ((s[0].toNat : Int) == 37) = false := by rw [beq_eq_false_iff_ne]; intro h; exact h37 (UInt8.toNat_inj.1 (by show s[0].toNat = 37; omega))
  have HD : Hid (∀ w, Calls Tryd.prog 53 #[.int .u8 (s[0].toNat : Int)] w fun e w' => e = .returned (.bool (isDig s[0])) ∧ w' = w) := ⟨fun w => rdigit_any _ w⟩
  have HI : Hid (∀ w, Calls Tryd.prog 57 #[.int .u8 (s[0].toNat : Int)] w fun e w' => e = .returned (.bool (isIn s[0])) ∧ w' = w) := ⟨fun w => rinside_any _ w⟩
  rw [hd] at HD
  rw [hi] at HI
  have HN : Hid (∀ w, Calls Tryd.prog 58 #[.string s] w fun e w' => e = .returned (.int .i64 (wordN (lo s))) ∧ w' = w) := ⟨fun w => rword_any s w (by omega)⟩
  have hle := word_le (lo s)
  rw [lo_len] at hle
  have HT : Hid (s.extract 0 (wordN (lo s)) = St ((lo s).take (wordN (lo s)))) := ⟨by rw [sub_St, List.drop_zero, Nat.sub_zero]⟩
  clear hN h34 h59 hd h39 h37 hi
  generalize wordN (lo s) = n at *
  have n1 : (n : Int) ≤ (s.size : Int) := by omega
  by_cases h255 : n ≤ 255
  · rw [if_pos h255]
    have h255i : (n : Int) ≤ 255 := by omega
    go_enter Tryd.func37, Tryd.ntmps37
    go_wp2_with (first
      | (go_at_call 53; (with_reducible refine (HD.out _).mono ?_); rintro e w' ⟨rfl, hw'⟩; subst w')
      | (go_at_call 57; (with_reducible refine (HI.out _).mono ?_); rintro e w' ⟨rfl, hw'⟩; subst w')
      | (go_at_call 58; (with_reducible refine (HN.out _).mono ?_); rintro e w' ⟨rfl, hw'⟩; subst w'))
    refine bodyPost_ret (res_tok _ _ w.heap.size _ _ _ _ rfl (by simp; rfl) (by simp; rfl) (by simp; rfl) (by simp; rfl)) rfl ?_
    exact ⟨one_yes (by first | rfl | (simp; omega)) HT.out, (Below.refl _ _).alloc (Nat.le_refl _) _⟩
  · rw [if_neg h255]
    have h255i : ¬ (n : Int) ≤ 255 := by omega
    go_enter Tryd.func37, Tryd.ntmps37
    go_wp2_with (first
      | (go_at_call 53; (with_reducible refine (HD.out _).mono ?_); rintro e w' ⟨rfl, hw'⟩; subst w')
      | (go_at_call 57; (with_reducible refine (HI.out _).mono ?_); rintro e w' ⟨rfl, hw'⟩; subst w')
      | (go_at_call 58; (with_reducible refine (HN.out _).mono ?_); rintro e w' ⟨rfl, hw'⟩; subst w'))
    refine bodyPost_ret (res_tok _ _ w.heap.size _ _ _ _ rfl (by simp; rfl) (by simp; rfl) (by simp; rfl) (by simp; rfl)) rfl ?_
    exact ⟨one_no (by first | rfl | (simp; omega)), (Below.refl _ _).alloc (Nat.le_refl _) _⟩

set_option maxHeartbeats 4000000 in
set_option maxRecDepth 10000 in
theorem rone_sign (s : ByteArray) (w : World) (h0 : 0 < s.size) (hl : s.size ≤ 8796093022208) (h59 : ¬ s[0] = 59) (hd : isDig s[0] = false) (h39 : ¬ s[0] = 39) (h34 : ¬ s[0] = 34) (h37 : ¬ s[0] = 37) (hi : isIn s[0] = false) :
    Calls Tryd.prog 37 #[.string s] w fun e w' => One3 (oneM (lo s)) e ∧ Below w.heap.size w w' := by
  have hN := one_c s h0
  have h0i : (0 : Int) < (s.size : Int) := by omega
  rw [if_neg h59, if_neg (fun h => h.elim (fun h => by rw [hd] at h; cases h) h39), if_neg h34, if_neg h37, if_neg (by rw [hi]; simp)] at hN
  rw [hN]
  have q59 : ((s[0].toNat : Int) == 59) = false := by rw [beq_eq_false_iff_ne]; intro h; exact h59 (UInt8.toNat_inj.1 (by show s[0].toNat = 59; omega))
  have q34 : ((s[0].toNat : Int) == 34) = false := by rw [beq_eq_false_iff_ne]; intro h; exact h34 (UInt8.toNat_inj.1 (by show s[0].toNat = 34; omega))
  have q39 : ((s[0].toNat : Int) == 39) = false := by rw [beq_eq_false_iff_ne]; intro h; exact h39 (UInt8.toNat_inj.1 (by show s[0].toNat = 39; omega))
  have q37 : ((s[0].toNat : Int) == 37) = false := by rw [beq_eq_false_iff_ne]; intro h; exact h37 (UInt8.toNat_inj.1 (by show s[0].toNat = 37; omega))
  have HD : Hid (∀ w, Calls Tryd.prog 53 #[.int .u8 (s[0].toNat : Int)] w fun e w' => e = .returned (.bool (isDig s[0])) ∧ w' = w) := ⟨fun w => rdigit_any _ w⟩
  have HI : Hid (∀ w, Calls Tryd.prog 57 #[.int .u8 (s[0].toNat : Int)] w fun e w' => e = .returned (.bool (isIn s[0])) ∧ w' = w) := ⟨fun w => rinside_any _ w⟩
  rw [hd] at HD
  rw [hi] at HI
  have HN : Hid (∀ w, Calls Tryd.prog 59 #[.string s] w fun e w' => e = .returned (.int .i64 (signN (lo s))) ∧ Below w.heap.size w w') := ⟨fun w => rsign_any s w h0 (by omega)⟩
  have hle : signN (lo s) ≤ s.size := sign_le s h0
  have HT : Hid (s.extract 0 (signN (lo s)) = St ((lo s).take (signN (lo s)))) := ⟨by rw [sub_St, List.drop_zero, Nat.sub_zero]⟩
  clear hN h34 h59 hd h39 h37 hi
  generalize signN (lo s) = n at *
  have n1 : (n : Int) ≤ (s.size : Int) := by omega
  by_cases hz : n = 0
  · rw [if_pos hz]
    subst hz
    go_enter Tryd.func37, Tryd.ntmps37
    go_wp2_with (first
      | (go_at_call 53; (with_reducible refine (HD.out _).mono ?_); rintro e w' ⟨rfl, hw'⟩; subst w')
      | (go_at_call 57; (with_reducible refine (HI.out _).mono ?_); rintro e w' ⟨rfl, hw'⟩; subst w')
      | (go_at_call 59; (with_reducible refine (HN.out _).mono ?_); rintro e w1 ⟨rfl, hb1⟩; have HB : Hid _ := ⟨hb1⟩; obtain ⟨d0, d1, d2, d3, fz⟩ := TB4.of hb1; have f0 := fz 0; have f1 := fz 1; have f2 := fz 2; have f3 := fz 3; clear hb1 fz))
    refine bodyPost_ret (res_set _ w1 w.heap.size _ _ _ _ rfl (TB4.of HB.out)) rfl ?_
    exact ⟨⟨_, _, _, _, _, rfl⟩, bel4 HB.out _ _ _ _⟩
  · rw [if_neg hz]
    have hzi : (0 : Int) < (n : Int) := by omega
    go_enter Tryd.func37, Tryd.ntmps37
    go_wp2_with (first
      | (go_at_call 53; (with_reducible refine (HD.out _).mono ?_); rintro e w' ⟨rfl, hw'⟩; subst w')
      | (go_at_call 57; (with_reducible refine (HI.out _).mono ?_); rintro e w' ⟨rfl, hw'⟩; subst w')
      | (go_at_call 59; (with_reducible refine (HN.out _).mono ?_); rintro e w1 ⟨rfl, hb1⟩; have HB : Hid _ := ⟨hb1⟩; obtain ⟨d0, d1, d2, d3, fz⟩ := TB4.of hb1; have f0 := fz 0; have f1 := fz 1; have f2 := fz 2; have f3 := fz 3; clear hb1 fz))
    refine bodyPost_ret (res_set _ w1 w.heap.size _ _ _ _ rfl (TB4.of HB.out)) rfl ?_
    exact ⟨one_yes (by first | rfl | (simp; omega)) HT.out, bel4 HB.out _ _ _ _⟩
end Go.Proofs.YthdkbjifjmhgoaaDoor

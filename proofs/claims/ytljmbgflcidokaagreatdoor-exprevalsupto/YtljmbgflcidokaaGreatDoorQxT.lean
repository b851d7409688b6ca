/- The program's tokens: names, registers, signs, bytes between quotes. -/
import Derived.Test.YtljmbgflcidokaaGreatDoorQxS2
namespace Go.Proofs.YtljmbgflcidokaaGreatDoor
open Go.ChangeShapes Go.WideShapes Go.ChangeAt Go.RowKit
set_option linter.unusedVariables false
set_option linter.unusedSimpArgs false

/-- How a call that cuts a token ends. -/
def TokE (m : Option (Tok × Nat)) (rb : Nat) (s : ByteArray) (a : Nat) (ln : Int) (lv : Value) (w : World) (e : Ending) (w' : World) : Prop :=
  match m with
  | none => ∃ (p q r : Int) (t : ByteArray) (a' : Nat), e = .returned (.tuple #[.agg #[.int .i64 p, .int .i64 q, .int .i64 r, .string t], .bool false]) ∧ RD w' rb s a' ln lv ∧ TR rb w w'
  | some x => e = .returned (.tuple #[.agg #[.int .i64 x.1.k, .int .i64 0, .int .i64 x.1.n, .string (St x.1.t)], .bool true]) ∧ RD w' rb s (a + x.2) ln lv ∧ TR rb w w'

abbrev tokZP : Obj := .cells #[.int .i64 0, .int .i64 0, .int .i64 0, .string ⟨#[]⟩] 37
/-- The new token's block, behind a call. -/
structure TBP (w : World) (g : Nat) : Prop where
  c0 : w.cell? ⟨g, 0, none⟩ = some (.int .i64 0)
  c1 : w.cell? ⟨g, 1, none⟩ = some (.int .i64 0)
  c2 : w.cell? ⟨g, 2, none⟩ = some (.int .i64 0)
  c3 : w.cell? ⟨g, 3, none⟩ = some (.string ⟨#[]⟩)
  fz : ∀ j, w.frozen? ⟨g, j, none⟩ = false
section
variable {w w1 w2 : World} {rb : Nat} {s : ByteArray} {a : Nat} {ln : Int} {lv : Value}
theorem TBP.new (w : World) : TBP (w.alloc tokZP) w.heap.size :=
  ⟨by simp, by simp, by simp, by simp, fun j => by simp only [World.frozen?]; rw [heap_alloc_new]; rfl⟩
theorem TBP.turn {g : Nat} (h : TBP w g) {S : Nat → Prop} (ht : Turn S w w1) (hg : ¬ S g) : TBP w1 g := by
  have hlt : g < w.heap.size := World.block_lt_of_cell? w ⟨g, 0, none⟩ h.c0
  have e : ∀ o, w1.cell? ⟨g, o, none⟩ = w.cell? ⟨g, o, none⟩ := fun o => World.cell?_of_block (ht.block g hlt hg)
  have e2 : ∀ o, w1.frozen? ⟨g, o, none⟩ = w.frozen? ⟨g, o, none⟩ := fun o => World.frozen?_of_block (w := w) (ht.block g hlt hg)
  exact ⟨(e _).trans h.c0, (e _).trans h.c1, (e _).trans h.c2, (e _).trans h.c3, fun j => (e2 j).trans (h.fz j)⟩
theorem TBP.of (h : RD w rb s a ln lv) (ht : TR rb (w.alloc tokZP) w1) : TBP w1 w.heap.size := (TBP.new w).turn ht (by have := h.lt; intro e; omega)
abbrev set4 (w : World) (g : Nat) (a b c d : Value) : World := (((w.setCell ⟨g, 0, none⟩ a).setCell ⟨g, 1, none⟩ b).setCell ⟨g, 2, none⟩ c).setCell ⟨g, 3, none⟩ d
theorem RD.set4 (h : RD w rb s a ln lv) {g : Nat} (hg : rb < g) (p q r t : Value) : RD (set4 w g p q r t) rb s a ln lv :=
  (((h.setNew ⟨g, 0, none⟩ hg p).setNew ⟨g, 1, none⟩ hg q).setNew ⟨g, 2, none⟩ hg r).setNew ⟨g, 3, none⟩ hg t
theorem TR.set4 (h : TR rb (w.alloc tokZP) w1) (p q r t : Value) : TR rb w (set4 w1 w.heap.size p q r t) :=
  Turn.setNew (Turn.setNew (Turn.setNew (Turn.setNew (((TR.self rb w).alloc tokZP).trans h) ⟨w.heap.size, 0, none⟩ (Nat.le_refl _) p) ⟨w.heap.size, 1, none⟩ (Nat.le_refl _) q) ⟨w.heap.size, 2, none⟩ (Nat.le_refl _) r) ⟨w.heap.size, 3, none⟩ (Nat.le_refl _) t
theorem TBP.cells {g : Nat} (T : TBP w g) (p q r t : Value) : (set4 w g p q r t).cell? ⟨g, 0, none⟩ = some p ∧ (set4 w g p q r t).cell? ⟨g, 1, none⟩ = some q ∧ (set4 w g p q r t).cell? ⟨g, 2, none⟩ = some r ∧ (set4 w g p q r t).cell? ⟨g, 3, none⟩ = some t := by
  refine ⟨?_, ?_, ?_, ?_⟩
  · simp [go_sem, T.c0]
  · simp [go_sem, T.c1]
  · simp [go_sem, T.c2]
  · simp [go_sem, T.c3]
theorem resP_name (tmps : Array Value) (W : World) (g : Nat) (a b c d : Value) (hp : tmps.getD 2 undef = .pointer (some ⟨g, 0, none⟩)) (c0 : W.cell? ⟨g, 0, none⟩ = some a) (c1 : W.cell? ⟨g, 1, none⟩ = some b) (c2 : W.cell? ⟨g, 2, none⟩ = some c) (c3 : W.cell? ⟨g, 3, none⟩ = some d) :
    (results Tryz.f77 tmps).run Tryz.prog W = .ok (.tuple #[.agg #[a, b, c, d], tmps.getD 3 undef]) W := by
  have hp' : tmps[2]?.getD undef = .pointer (some ⟨g, 0, none⟩) := by simpa using hp
  simp [results, Tryz.results77, hp', asAddr, loadVar, isAgg, run_underlying Tryz.underlying37, go_sem, c0, c1, c2, c3]
theorem resS_name (tmps : Array Value) (w : World) (g : Nat) (a b c d : Value) (hp : tmps.getD 2 undef = .pointer (some ⟨g, 0, none⟩)) (T : TBP w g) :
    (results Tryz.f77 tmps).run Tryz.prog (set4 w g a b c d) = .ok (.tuple #[.agg #[a, b, c, d], tmps.getD 3 undef]) (set4 w g a b c d) := by
  obtain ⟨h0, h1, h2, h3⟩ := T.cells a b c d
  exact resP_name tmps _ g a b c d hp h0 h1 h2 h3
theorem resP_register (tmps : Array Value) (W : World) (g : Nat) (a b c d : Value) (hp : tmps.getD 2 undef = .pointer (some ⟨g, 0, none⟩)) (c0 : W.cell? ⟨g, 0, none⟩ = some a) (c1 : W.cell? ⟨g, 1, none⟩ = some b) (c2 : W.cell? ⟨g, 2, none⟩ = some c) (c3 : W.cell? ⟨g, 3, none⟩ = some d) :
    (results Tryz.f81 tmps).run Tryz.prog W = .ok (.tuple #[.agg #[a, b, c, d], tmps.getD 3 undef]) W := by
  have hp' : tmps[2]?.getD undef = .pointer (some ⟨g, 0, none⟩) := by simpa using hp
  simp [results, Tryz.results81, hp', asAddr, loadVar, isAgg, run_underlying Tryz.underlying37, go_sem, c0, c1, c2, c3]
theorem resS_register (tmps : Array Value) (w : World) (g : Nat) (a b c d : Value) (hp : tmps.getD 2 undef = .pointer (some ⟨g, 0, none⟩)) (T : TBP w g) :
    (results Tryz.f81 tmps).run Tryz.prog (set4 w g a b c d) = .ok (.tuple #[.agg #[a, b, c, d], tmps.getD 3 undef]) (set4 w g a b c d) := by
  obtain ⟨h0, h1, h2, h3⟩ := T.cells a b c d
  exact resP_register tmps _ g a b c d hp h0 h1 h2 h3
theorem resP_sign (tmps : Array Value) (W : World) (g : Nat) (a b c d : Value) (hp : tmps.getD 2 undef = .pointer (some ⟨g, 0, none⟩)) (c0 : W.cell? ⟨g, 0, none⟩ = some a) (c1 : W.cell? ⟨g, 1, none⟩ = some b) (c2 : W.cell? ⟨g, 2, none⟩ = some c) (c3 : W.cell? ⟨g, 3, none⟩ = some d) :
    (results Tryz.f82 tmps).run Tryz.prog W = .ok (.tuple #[.agg #[a, b, c, d], tmps.getD 3 undef]) W := by
  have hp' : tmps[2]?.getD undef = .pointer (some ⟨g, 0, none⟩) := by simpa using hp
  simp [results, Tryz.results82, hp', asAddr, loadVar, isAgg, run_underlying Tryz.underlying37, go_sem, c0, c1, c2, c3]
theorem resS_sign (tmps : Array Value) (w : World) (g : Nat) (a b c d : Value) (hp : tmps.getD 2 undef = .pointer (some ⟨g, 0, none⟩)) (T : TBP w g) :
    (results Tryz.f82 tmps).run Tryz.prog (set4 w g a b c d) = .ok (.tuple #[.agg #[a, b, c, d], tmps.getD 3 undef]) (set4 w g a b c d) := by
  obtain ⟨h0, h1, h2, h3⟩ := T.cells a b c d
  exact resP_sign tmps _ g a b c d hp h0 h1 h2 h3
theorem resP_byteNumber (tmps : Array Value) (W : World) (g : Nat) (a b c d : Value) (hp : tmps.getD 2 undef = .pointer (some ⟨g, 0, none⟩)) (c0 : W.cell? ⟨g, 0, none⟩ = some a) (c1 : W.cell? ⟨g, 1, none⟩ = some b) (c2 : W.cell? ⟨g, 2, none⟩ = some c) (c3 : W.cell? ⟨g, 3, none⟩ = some d) :
    (results Tryz.f79 tmps).run Tryz.prog W = .ok (.tuple #[.agg #[a, b, c, d], tmps.getD 3 undef]) W := by
  have hp' : tmps[2]?.getD undef = .pointer (some ⟨g, 0, none⟩) := by simpa using hp
  simp [results, Tryz.results79, hp', asAddr, loadVar, isAgg, run_underlying Tryz.underlying37, go_sem, c0, c1, c2, c3]
theorem resS_byteNumber (tmps : Array Value) (w : World) (g : Nat) (a b c d : Value) (hp : tmps.getD 2 undef = .pointer (some ⟨g, 0, none⟩)) (T : TBP w g) :
    (results Tryz.f79 tmps).run Tryz.prog (set4 w g a b c d) = .ok (.tuple #[.agg #[a, b, c, d], tmps.getD 3 undef]) (set4 w g a b c d) := by
  obtain ⟨h0, h1, h2, h3⟩ := T.cells a b c d
  exact resP_byteNumber tmps _ g a b c d hp h0 h1 h2 h3
theorem resP_number (tmps : Array Value) (W : World) (g : Nat) (a b c d : Value) (hp : tmps.getD 2 undef = .pointer (some ⟨g, 0, none⟩)) (c0 : W.cell? ⟨g, 0, none⟩ = some a) (c1 : W.cell? ⟨g, 1, none⟩ = some b) (c2 : W.cell? ⟨g, 2, none⟩ = some c) (c3 : W.cell? ⟨g, 3, none⟩ = some d) :
    (results Tryz.f78 tmps).run Tryz.prog W = .ok (.tuple #[.agg #[a, b, c, d], tmps.getD 3 undef]) W := by
  have hp' : tmps[2]?.getD undef = .pointer (some ⟨g, 0, none⟩) := by simpa using hp
  simp [results, Tryz.results78, hp', asAddr, loadVar, isAgg, run_underlying Tryz.underlying37, go_sem, c0, c1, c2, c3]
theorem resS_number (tmps : Array Value) (w : World) (g : Nat) (a b c d : Value) (hp : tmps.getD 2 undef = .pointer (some ⟨g, 0, none⟩)) (T : TBP w g) :
    (results Tryz.f78 tmps).run Tryz.prog (set4 w g a b c d) = .ok (.tuple #[.agg #[a, b, c, d], tmps.getD 3 undef]) (set4 w g a b c d) := by
  obtain ⟨h0, h1, h2, h3⟩ := T.cells a b c d
  exact resP_number tmps _ g a b c d hp h0 h1 h2 h3
theorem resP_quotedText (tmps : Array Value) (W : World) (g : Nat) (a b c d : Value) (hp : tmps.getD 2 undef = .pointer (some ⟨g, 0, none⟩)) (c0 : W.cell? ⟨g, 0, none⟩ = some a) (c1 : W.cell? ⟨g, 1, none⟩ = some b) (c2 : W.cell? ⟨g, 2, none⟩ = some c) (c3 : W.cell? ⟨g, 3, none⟩ = some d) :
    (results Tryz.f80 tmps).run Tryz.prog W = .ok (.tuple #[.agg #[a, b, c, d], tmps.getD 3 undef]) W := by
  have hp' : tmps[2]?.getD undef = .pointer (some ⟨g, 0, none⟩) := by simpa using hp
  simp [results, Tryz.results80, hp', asAddr, loadVar, isAgg, run_underlying Tryz.underlying37, go_sem, c0, c1, c2, c3]
theorem resS_quotedText (tmps : Array Value) (w : World) (g : Nat) (a b c d : Value) (hp : tmps.getD 2 undef = .pointer (some ⟨g, 0, none⟩)) (T : TBP w g) :
    (results Tryz.f80 tmps).run Tryz.prog (set4 w g a b c d) = .ok (.tuple #[.agg #[a, b, c, d], tmps.getD 3 undef]) (set4 w g a b c d) := by
  obtain ⟨h0, h1, h2, h3⟩ := T.cells a b c d
  exact resP_quotedText tmps _ g a b c d hp h0 h1 h2 h3
theorem resP_token (tmps : Array Value) (W : World) (g : Nat) (a b c d : Value) (hp : tmps.getD 2 undef = .pointer (some ⟨g, 0, none⟩)) (c0 : W.cell? ⟨g, 0, none⟩ = some a) (c1 : W.cell? ⟨g, 1, none⟩ = some b) (c2 : W.cell? ⟨g, 2, none⟩ = some c) (c3 : W.cell? ⟨g, 3, none⟩ = some d) :
    (results Tryz.f59 tmps).run Tryz.prog W = .ok (.tuple #[.agg #[a, b, c, d], tmps.getD 3 undef]) W := by
  have hp' : tmps[2]?.getD undef = .pointer (some ⟨g, 0, none⟩) := by simpa using hp
  simp [results, Tryz.results59, hp', asAddr, loadVar, isAgg, run_underlying Tryz.underlying37, go_sem, c0, c1, c2, c3]
theorem resS_token (tmps : Array Value) (w : World) (g : Nat) (a b c d : Value) (hp : tmps.getD 2 undef = .pointer (some ⟨g, 0, none⟩)) (T : TBP w g) :
    (results Tryz.f59 tmps).run Tryz.prog (set4 w g a b c d) = .ok (.tuple #[.agg #[a, b, c, d], tmps.getD 3 undef]) (set4 w g a b c d) := by
  obtain ⟨h0, h1, h2, h3⟩ := T.cells a b c d
  exact resP_token tmps _ g a b c d hp h0 h1 h2 h3
theorem resP_numberOf (tmps : Array Value) (W : World) (g : Nat) (a b c d : Value) (hp : tmps.getD 4 undef = .pointer (some ⟨g, 0, none⟩)) (c0 : W.cell? ⟨g, 0, none⟩ = some a) (c1 : W.cell? ⟨g, 1, none⟩ = some b) (c2 : W.cell? ⟨g, 2, none⟩ = some c) (c3 : W.cell? ⟨g, 3, none⟩ = some d) :
    (results Tryz.f96 tmps).run Tryz.prog W = .ok (.tuple #[.agg #[a, b, c, d], tmps.getD 5 undef]) W := by
  have hp' : tmps[4]?.getD undef = .pointer (some ⟨g, 0, none⟩) := by simpa using hp
  simp [results, Tryz.results96, hp', asAddr, loadVar, isAgg, run_underlying Tryz.underlying37, go_sem, c0, c1, c2, c3]
theorem resS_numberOf (tmps : Array Value) (w : World) (g : Nat) (a b c d : Value) (hp : tmps.getD 4 undef = .pointer (some ⟨g, 0, none⟩)) (T : TBP w g) :
    (results Tryz.f96 tmps).run Tryz.prog (set4 w g a b c d) = .ok (.tuple #[.agg #[a, b, c, d], tmps.getD 5 undef]) (set4 w g a b c d) := by
  obtain ⟨h0, h1, h2, h3⟩ := T.cells a b c d
  exact resP_numberOf tmps _ g a b c d hp h0 h1 h2 h3

theorem is_t (h : RD w rb s a ln lv) (K : Nat) (z : Int) (hz : z = (K : Int)) : Calls Tryz.prog 76 #[.pointer (some ⟨rb, 0, none⟩), .int .u8 z] w fun e w' => e = .returned (.bool (kB K (hdZ (Ln s a)))) ∧ RD w' rb s a ln lv ∧ TR rb w w' := by
  subst hz
  refine (is_any h K).mono ?_
  rintro e w' ⟨he, m, rfl⟩
  exact ⟨he, h.drewN m, (TR.self _ _).draw m⟩
theorem since_t (h : RD w rb s a ln lv) (f : Nat) (hf : f ≤ a) (ha : a ≤ s.size) (hl : s.size ≤ 8796093022208) : Calls Tryz.prog 94 #[.pointer (some ⟨rb, 0, none⟩), .int .i64 f] w fun e w' => e = .returned (.string (s.extract f a)) ∧ RD w' rb s a ln lv ∧ TR rb w w' := by
  refine (since_any h f hf ha hl).mono ?_
  rintro e w' ⟨he, hb⟩
  exact ⟨he, h.below hb, Turn.of_below hb _⟩

theorem numberOf_any (h : RD w rb s a ln lv) (n : Int) : Calls Tryz.prog 96 #[.pointer (some ⟨rb, 0, none⟩), .int .i64 n] w fun e w' => TokE (if kB 22 (hdZ (Ln s a)) = true then none else some (⟨2, n, []⟩, 0)) rb s a ln lv w e w' := by
  have HI : Hid _ := ⟨is_t (h.alloc tokZP) 22 22 rfl⟩
  have HR : Hid _ := ⟨h⟩
  have hne := h.lt
  generalize kB 22 (hdZ (Ln s a)) = b at *
  clear h
  cases b
  · go_enter Tryz.func96, Tryz.ntmps96
    go_wp2_with (go_at_call 76; (with_reducible refine HI.out.mono ?_); rintro e w1 ⟨rfl, R1, T1⟩; have HT : Hid _ := ⟨T1⟩; have HR1 : Hid _ := ⟨R1⟩; obtain ⟨d0, d1, d2, d3, fz⟩ := TBP.of HR.out T1; have f0 := fz 0; have f1 := fz 1; have f2 := fz 2; have f3 := fz 3; clear fz R1 T1)
    refine bodyPost_ret (resS_numberOf _ w1 w.heap.size _ _ _ _ rfl (TBP.of HR.out HT.out)) rfl ?_
    exact ⟨rfl, HR1.out.set4 hne _ _ _ _, TR.set4 HT.out _ _ _ _⟩
  · go_enter Tryz.func96, Tryz.ntmps96
    go_wp2_with (go_at_call 76; (with_reducible refine HI.out.mono ?_); rintro e w1 ⟨rfl, R1, T1⟩; have HT : Hid _ := ⟨T1⟩; have HR1 : Hid _ := ⟨R1⟩; obtain ⟨d0, d1, d2, d3, fz⟩ := TBP.of HR.out T1; have f0 := fz 0; have f1 := fz 1; have f2 := fz 2; have f3 := fz 3; clear fz R1 T1)
    refine bodyPost_ret (resS_numberOf _ w1 w.heap.size _ _ _ _ rfl (TBP.of HR.out HT.out)) rfl ?_
    exact ⟨_, _, _, _, _, rfl, HR1.out.set4 hne _ _ _ _, TR.set4 HT.out _ _ _ _⟩

set_option maxRecDepth 10000 in
theorem name_any (h : RD w rb s a ln lv) (hl : s.size ≤ 8796093022208) (ha : a ≤ s.size) : Calls Tryz.prog 77 #[.pointer (some ⟨rb, 0, none⟩)] w fun e w' => TokE (if wordN (Ln s a) ≤ 255 then some (⟨1, 0, (Ln s a).take (wordN (Ln s a))⟩, wordN (Ln s a)) else none) rb s a ln lv w e w' := by
  have HS : Hid _ := ⟨skip_any (h.alloc tokZP) 22 22 rfl (by omega) hl ha⟩
  have hle := run_le 22 (Ln s a)
  have hex := Ln_sub hle
  rw [run_word] at HS hle hex
  have htop := Ln_top s _ a hle ha
  have HR : Hid _ := ⟨h⟩
  have hne := h.lt
  have HC : Hid (∀ W, RD W rb s (a + wordN (Ln s a)) ln lv → Calls Tryz.prog 94 #[.pointer (some ⟨rb, 0, none⟩), .int .i64 a] W fun e w' => e = .returned (.string (St ((Ln s a).take (wordN (Ln s a))))) ∧ RD w' rb s (a + wordN (Ln s a)) ln lv ∧ TR rb W w') := ⟨fun W hW => by
    have := since_t hW a (by omega) htop hl
    rw [hex] at this
    exact this⟩
  have c1 := h.c1
  have hlt := h.lt
  generalize (Ln s a).take (wordN (Ln s a)) = T at *
  generalize wordN (Ln s a) = n at *
  obtain ⟨q, hq⟩ : ∃ q, a + n = q := ⟨_, rfl⟩
  rw [hq] at HS HC htop
  have hsub : IntKind.i64.wrap ((q : Int) - (a : Int)) = (n : Int) := by rw [IntKind.wrap_i64]; omega
  have hqa : (q : Int) - (a : Int) = (n : Int) := by omega
  have HQ : Hid _ := ⟨hq⟩
  clear h hle hex hq
  by_cases h255 : n ≤ 255
  · rw [if_pos h255]
    have hi : ¬ (255 : Int) < (n : Int) := by omega
    go_enter Tryz.func77, Tryz.ntmps77
    go_wp2_with (first
      | (go_at_call 54; (with_reducible refine HS.out.mono ?_); rintro e w1 ⟨rfl, R1, T1⟩; have e1 := R1.c1; have HT : Hid _ := ⟨T1⟩; have HR1 : Hid _ := ⟨R1⟩; clear R1 T1)
      | (go_at_call 94; (with_reducible refine (HC.out _ HR1.out).mono ?_); rintro e w2 ⟨rfl, R2, T2⟩; have HT2 : Hid _ := ⟨HT.out.trans T2⟩; have HR2 : Hid _ := ⟨R2⟩; obtain ⟨d0, d1, d2, d3, fz⟩ := TBP.of HR.out (HT.out.trans T2); have f0 := fz 0; have f1 := fz 1; have f2 := fz 2; have f3 := fz 3; clear fz R2 T2))
    refine bodyPost_ret (resS_name _ w2 w.heap.size _ _ _ _ rfl (TBP.of HR.out HT2.out)) rfl ?_
    exact ⟨rfl, by rw [HQ.out]; exact HR2.out.set4 hne _ _ _ _, TR.set4 HT2.out _ _ _ _⟩
  · rw [if_neg h255]
    have hi : (255 : Int) < (n : Int) := by omega
    go_enter Tryz.func77, Tryz.ntmps77
    go_wp2_with (first
      | (go_at_call 54; (with_reducible refine HS.out.mono ?_); rintro e w1 ⟨rfl, R1, T1⟩; have e1 := R1.c1; have HT : Hid _ := ⟨T1⟩; have HR1 : Hid _ := ⟨R1⟩; obtain ⟨d0, d1, d2, d3, fz⟩ := TBP.of HR.out T1; have f0 := fz 0; have f1 := fz 1; have f2 := fz 2; have f3 := fz 3; clear fz R1 T1))
    refine bodyPost_ret (resS_name _ w1 w.heap.size _ _ _ _ rfl (TBP.of HR.out HT.out)) rfl ?_
    exact ⟨_, _, _, _, _, rfl, HR1.out.set4 hne _ _ _ _, TR.set4 HT.out _ _ _ _⟩
end
end Go.Proofs.YtljmbgflcidokaaGreatDoor

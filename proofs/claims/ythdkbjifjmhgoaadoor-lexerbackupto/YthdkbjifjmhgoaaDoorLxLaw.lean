/- What the laws lean on: the contracts of the program's calls, by name; num, live. -/
import Derived.Test.YthdkbjifjmhgoaaDoorLxTokP
import Derived.Test.YthdkbjifjmhgoaaDoorQxS
import Derived.Laws.StructEq
namespace Go.Proofs.YthdkbjifjmhgoaaDoor
open Go.ChangeShapes Go.WideShapes Go.ChangeAt Go.RowKit
set_option linter.unusedVariables false
set_option linter.unusedSimpArgs false

/-- How the program's All ends. -/
def AEndsP (m : Except (Int × Int) (List TL)) (w : World) (e : Ending) (w' : World) : Prop :=
  match m with
  | .error p => e = .returned (.tuple #[.slice none 0 0, .int .i64 p.1, .int .i64 p.2]) ∧ Below w.heap.size w w'
  | .ok ts => ∃ v, e = .returned (.tuple #[v, .int .i64 0, .int .i64 0]) ∧ OwnTP w' w.heap.size v ts ∧ Below w.heap.size w w'
/-- The contracts of the program's All, Quote and Print. -/
def PAll : Prop := ∀ (s : ByteArray) (w : World), Er w → Calls Tryd.prog 9 #[.string s] w fun e w' => AEndsP (allM (lo s)) w e w'
def PQuote : Prop := ∀ (s : ByteArray) (w : World), s.size ≤ 8796093022208 → Calls Tryd.prog 17 #[.string s] w fun e w' => e = .returned (.string (St (quoteM (lo s)))) ∧ Below w.heap.size w w'

theorem num_any (n : Int) (w : World) : Calls Tryd.prog 12 #[.int .i64 n] w fun e w' => e = .returned (.int .i64 n) ∧ w' = w := by
  go_enter Tryd.func12, Tryd.ntmps12
  go_wp2
  go_ret
  exact ⟨rfl, rfl⟩

theorem eql_tok (a b c : Int) (s : ByteArray) (w : World) : (binOp .eql 32 (.agg #[.int .i64 a, .int .i64 b, .int .i64 c, .string s]) (.agg #[.int .i64 a, .int .i64 b, .int .i64 c, .string s])).run Tryd.prog w = .ok (.bool true) w := by
  simp [go_sem]

def liveT : List UInt8 := [102, 111, 111, 58, 32, 109, 111, 118, 113, 32, 36, 45, 48, 120, 49, 48, 44, 32, 37, 114, 97, 120, 32, 35, 32, 120, 10]
def liveL : List TL := [(⟨1, 0, [102, 111, 111]⟩, 1), (⟨4, 0, [58]⟩, 1), (⟨1, 0, [109, 111, 118, 113]⟩, 1), (⟨4, 0, [36]⟩, 1), (⟨4, 0, [45]⟩, 1), (⟨2, 16, []⟩, 1), (⟨4, 0, [44]⟩, 1), (⟨5, 0, [114, 97, 120]⟩, 1), (⟨6, 0, []⟩, 1)]
theorem live_cut : allM liveT = .ok liveL := by kernel_rfl

set_option maxHeartbeats 4000000 in
set_option maxRecDepth 10000 in
theorem live_any (HA : PAll) (w : World) (hE : Er w) : Calls Tryd.prog 13 #[] w fun e w' => e = .returned (.bool true) ∧ Below w.heap.size w w' := by
  have h := HA ⟨#[102, 111, 111, 58, 32, 109, 111, 118, 113, 32, 36, 45, 48, 120, 49, 48, 44, 32, 37, 114, 97, 120, 32, 35, 32, 120, 10]⟩ w hE
  rw [show lo ⟨#[102, 111, 111, 58, 32, 109, 111, 118, 113, 32, 36, 45, 48, 120, 49, 48, 44, 32, 37, 114, 97, 120, 32, 35, 32, 120, 10]⟩ = liveT from rfl, live_cut] at h
  have HC : Hid _ := ⟨h⟩
  have he := eql_tok 1 1 0 ⟨#[102, 111, 111]⟩
  clear h HA
  go_enter Tryd.func13, Tryd.ntmps13
  go_wp2_with (first
    | (go_at_call 9; (with_reducible refine HC.out.mono ?_); rintro e w1 ⟨v1, rfl, o1, hb1⟩; obtain ⟨ao, cp, hv, _, _, ht, _⟩ := OwnTP.any o1; rw [show liveL.length = 9 from rfl] at hv; subst hv; obtain ⟨b, off, hao, hat⟩ : ∃ b off, ao = some ⟨b, off, none⟩ ∧ ∀ i, i < liveL.length → TokAt w1 b (off + i * 4) (liveL.getD i TL.none) := ht.resolve_left (by intro h; cases h); subst hao; obtain ⟨a0, a1, a2, a3⟩ := hat 0 (by decide); obtain ⟨x0, x1, x2, x3⟩ := hat 5 (by decide); obtain ⟨y0, y1, y2, y3⟩ := hat 7 (by decide); obtain ⟨z0, z1, z2, z3⟩ := hat 8 (by decide); simp only [liveL, List.getD_cons_zero, List.getD_cons_succ, Nat.zero_mul, Nat.add_zero] at a0 a1 a2 a3 x2 y3 z0; change _ = some (Value.string ⟨#[102, 111, 111]⟩) at a3; change _ = some (Value.string ⟨#[114, 97, 120]⟩) at y3; clear hat ht o1 x0 x1 x3 y0 y1 y2 z1 z2 z3)
    | (go_at_call 12; refine (num_any _ _).mono ?_; rintro e w' ⟨rfl, hw'⟩; subst w'))
  go_ret
  exact ⟨rfl, hb1⟩

set_option maxHeartbeats 4000000 in
set_option maxRecDepth 10000 in
theorem lexerTexts_walk (HA : PAll) (HQ : PQuote) (s : ByteArray) (w : World) (hE : Er w) (hs : s.size ≤ 9223372036854775807) :
    Calls Tryd.prog 7 #[.string s] w fun e w' => e = .returned (.bool true) ∧ Below w.heap.size w w' := by
  have key : ∀ t : ByteArray, t.size ≤ 16000 → Hid (∀ W, Below w.heap.size w W → Calls Tryd.prog 9 #[.string (St (quoteM (lo t)))] W fun e w' => ∃ b off cp, e = .returned (.tuple #[.slice (some ⟨b, off, none⟩) 2 cp, .int .i64 0, .int .i64 0]) ∧ w'.cell? ⟨b, off, none⟩ = some (.int .i64 3) ∧ w'.cell? ⟨b, off + 1, none⟩ = some (.int .i64 1) ∧ w'.cell? ⟨b, off + 2, none⟩ = some (.int .i64 0) ∧ w'.cell? ⟨b, off + 3, none⟩ = some (.string t) ∧ w'.cell? ⟨b, off + 4, none⟩ = some (.int .i64 6) ∧ Below w.heap.size w w') := fun t ht => ⟨fun W hW => by
    have h := HA (St (quoteM (lo t))) W (hE.below hW hE.sz)
    rw [lo_St, texts_back (lo t) (by rw [lo_len]; exact ht)] at h
    refine h.mono ?_
    rintro e w1 ⟨v1, rfl, o1, hb1⟩
    obtain ⟨ao, cp, hv, _, _, hk, _⟩ := OwnTP.any o1
    subst hv
    obtain ⟨b, off, rfl, hat⟩ := hk.resolve_left (by intro h; cases h)
    obtain ⟨a0, a1, a2, a3⟩ := hat 0 (by simp)
    obtain ⟨z0, z1, z2, z3⟩ := hat 1 (by simp)
    simp only [Nat.zero_mul, Nat.add_zero, Nat.one_mul] at a0 a1 a2 a3 z0
    exact ⟨b, off, cp, rfl, a0, a1, a2, a3, z0, hW.trans (hb1.mono hW.size)⟩⟩
  have HL : Hid (∀ W, Below w.heap.size w W → Calls Tryd.prog 13 #[] W fun e w' => e = .returned (.bool true) ∧ Below W.heap.size W w') := ⟨fun W hW => live_any HA W (hE.below hW hE.sz)⟩
  by_cases h16 : 16000 < s.size
  · have h16i : (16000 : Int) < (s.size : Int) := by omega
    have hz : (s.extract 0 16000).size = 16000 := by rw [ByteArray.size_extract]; omega
    have HK := key (s.extract 0 16000) (by omega)
    have HQ1 : Hid _ := ⟨HQ (s.extract 0 16000) w (by omega)⟩
    have he := eql_tok 3 1 0 (s.extract 0 16000)
    have h16n : (16000 : Int) ≤ (s.size : Int) := by omega
    clear key HA HQ hz
    go_enter Tryd.func7, Tryd.ntmps7
    go_wp2_with (first
      | (go_at_call 17; (with_reducible refine HQ1.out.mono ?_); rintro e w1 ⟨rfl, hb1⟩)
      | (go_at_call 9; (with_reducible refine (HK.out _ hb1).mono ?_); rintro e w2 ⟨b, off, cp, rfl, a0, a1, a2, a3, z0, hb2⟩)
      | (go_at_call 12; refine (num_any _ _).mono ?_; rintro e w' ⟨rfl, hw'⟩; subst w')
      | (go_at_call 13; (with_reducible refine (HL.out _ hb2).mono ?_); rintro e w3 ⟨rfl, hb3⟩))
    go_ret
    exact ⟨rfl, hb2.trans (hb3.mono hb2.size)⟩
  · have h16i : ¬ (16000 : Int) < (s.size : Int) := by omega
    have HK := key s (by omega)
    have HQ1 : Hid _ := ⟨HQ s w (by omega)⟩
    have he := eql_tok 3 1 0 s
    clear key HA HQ
    go_enter Tryd.func7, Tryd.ntmps7
    go_wp2_with (first
      | (go_at_call 17; (with_reducible refine HQ1.out.mono ?_); rintro e w1 ⟨rfl, hb1⟩)
      | (go_at_call 9; (with_reducible refine (HK.out _ hb1).mono ?_); rintro e w2 ⟨b, off, cp, rfl, a0, a1, a2, a3, z0, hb2⟩)
      | (go_at_call 12; refine (num_any _ _).mono ?_; rintro e w' ⟨rfl, hw'⟩; subst w')
      | (go_at_call 13; (with_reducible refine (HL.out _ hb2).mono ?_); rintro e w3 ⟨rfl, hb3⟩))
    go_ret
    exact ⟨rfl, hb2.trans (hb3.mono hb2.size)⟩
end Go.Proofs.YthdkbjifjmhgoaaDoor

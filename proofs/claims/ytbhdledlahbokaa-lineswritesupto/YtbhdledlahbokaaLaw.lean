/- What a law's walk is told of a slice of bytes that came in; readings of any bytes, named ahead of the walk. -/
import Derived.Test.YtbhdledlahbokaaKnows
import Derived.Test.YtbhdledlahbokaaGroups
import Derived.Test.YtbhdledlahbokaaBackPlain
namespace Go.Proofs.Ytbhdledlahbokaa
open Go.ChangeShapes Go.WideShapes Go.ChangeAt Go.RowKit
set_option linter.unusedVariables false

theorem i64_bounds {a : Int} (h : (Lit.int .i64 a).wf = true) : -9223372036854775808 ≤ a ∧ a ≤ 9223372036854775807 := by
  simpa [Lit.wf, IntKind.min, IntKind.max, IntKind.signed, IntKind.bits] using h
theorem u8_bounds {a : Int} (h : (Lit.int .u8 a).wf = true) : 0 ≤ a ∧ a < 256 := by
  have : 0 ≤ a ∧ a ≤ 255 := by simpa [Lit.wf, IntKind.min, IntKind.max, IntKind.signed, IntKind.bits] using h
  omega

/-- A slice of bytes that came in: its bytes lie in memory, each is a byte. -/
structure IsRow (w : World) (ao : Option Addr) (len cap : Nat) (bs : Nat → Int) : Prop where
  row : Row w ao len bs
  byte : ∀ i, 0 ≤ bs i ∧ bs i < 256
  fit : len ≤ cap
  top : cap ≤ 9223372036854775807
  nil : ao = none → len = 0 ∧ cap = 0

theorem IsRow.none (w : World) : IsRow w Option.none 0 0 (fun _ => 0) := ⟨.inl rfl, fun _ => by omega, by omega, by omega, fun _ => ⟨rfl, rfl⟩⟩

theorem IsRow.some {w : World} {x : Addr} {len cap : Nat} {zs : List Int} {s : Bool} (hl : len ≤ cap) (hm : cap ≤ maxLen) (hz : zs.length = (if s = true then cap else len))
    (hcell : ∀ i, i < zs.length → w.cell? (x.add i) = Option.some (.int .u8 (zs.getD i 0))) (hwz : ∀ n ∈ zs, (Lit.int .u8 n).wf = true) : IsRow w (Option.some x) len cap (fun i => zs.getD i 0) := by
  have hlen : len ≤ zs.length := by rw [hz]; split <;> omega
  refine ⟨?_, fun i => getD_byte (fun n hn => u8_bounds (hwz n hn)) i, hl, by unfold maxLen at hm; omega, fun e => by cases e⟩
  by_cases h0 : len = 0
  · exact .inl h0
  · right
    obtain ⟨b, off, spot⟩ := x
    have hc := hcell 0 (by omega)
    have hspot : spot = Option.none := by simpa [Addr.add] using World.cell?_spot hc
    subst hspot
    refine ⟨b, off, rfl, fun i hi => ?_⟩
    have h1 := hcell i (by omega)
    have h2 : (⟨b, off, Option.none⟩ : Addr).add i = ⟨b, off + i, Option.none⟩ := by unfold Addr.add; split <;> simp_all
    rw [h2] at h1
    exact h1

/-- ReadUleb of any bytes at any place: what comes, named ahead of the walk. -/
theorem readU_is (ao : Option Addr) (len cap : Nat) (bs : Nat → Int) (t : Int) (hbs : ∀ i, 0 ≤ bs i ∧ bs i < 256) (hl : len ≤ 140737488355328) (ht : t ≤ 9223372036854775807) :
    ∃ x i g : Int, (∀ w, Row w ao len bs → Calls Try.prog 48 #[.slice ao len cap, .int .i64 t] w fun e w' => e = .returned (.tuple #[.int .i64 x, .int .i64 i, .int .i64 g]) ∧ Below w.heap.size w w') ∧
      ((x = 0 ∧ i = 0 ∧ g = 20 ∧ Fin len bs t) ∨ (x = 0 ∧ i = 0 ∧ g = 21 ∧ (Long len bs t ∨ ∃ a : Nat, t = a ∧ Num len bs a 10 ∧ ¬ bs (a + 9) ≤ 1)) ∨
        ∃ a c : Nat, t = a ∧ Num len bs a c ∧ (c = 10 → bs (a + 9) ≤ 1) ∧ x = wrap64 (uacc bs a c) ∧ i = a + c ∧ g = 0) := by
  rcases sorts len bs t with h | h | ⟨a, c, rfl, h⟩
  · exact ⟨0, 0, 20, fun w hr => readU_fin ao len cap bs t w hr hl ht h, .inl ⟨rfl, rfl, rfl, h⟩⟩
  · exact ⟨0, 0, 21, fun w hr => readU_lng ao len cap bs t w hr hl h, .inr (.inl ⟨rfl, rfl, rfl, .inl h⟩)⟩
  · by_cases hb : c = 10 ∧ ¬ bs (a + 9) ≤ 1
    · obtain ⟨rfl, hb⟩ := hb
      exact ⟨0, 0, 21, fun w hr => readU_bad ao len cap a bs w hr hbs hl h hb, .inr (.inl ⟨rfl, rfl, rfl, .inr ⟨a, rfl, h, hb⟩⟩)⟩
    · have hb' : c = 10 → bs (a + 9) ≤ 1 := fun e => Classical.byContradiction fun hn => hb ⟨e, hn⟩
      exact ⟨_, _, 0, fun w hr => readU_num ao len cap a c bs w hr hbs hl h hb', .inr (.inr ⟨a, c, rfl, h, hb', rfl, rfl, rfl⟩)⟩

theorem readS_is (ao : Option Addr) (len cap : Nat) (bs : Nat → Int) (t : Int) (hbs : ∀ i, 0 ≤ bs i ∧ bs i < 256) (hl : len ≤ 140737488355328) (ht : t ≤ 9223372036854775807) :
    ∃ x i g : Int, (∀ w, Row w ao len bs → Calls Try.prog 94 #[.slice ao len cap, .int .i64 t] w fun e w' => e = .returned (.tuple #[.int .i64 x, .int .i64 i, .int .i64 g]) ∧ Below w.heap.size w w') ∧
      ((x = 0 ∧ i = 0 ∧ g = 20 ∧ Fin len bs t) ∨ (x = 0 ∧ i = 0 ∧ g = 21 ∧ (Long len bs t ∨ ∃ a : Nat, t = a ∧ Num len bs a 10 ∧ ¬ (bs (a + 9) = 0 ∨ bs (a + 9) = 127))) ∨
        ∃ a c : Nat, t = a ∧ Num len bs a c ∧ (c = 10 → bs (a + 9) = 0 ∨ bs (a + 9) = 127) ∧ x = sval bs a c ∧ i = a + c ∧ g = 0) := by
  rcases sorts len bs t with h | h | ⟨a, c, rfl, h⟩
  · exact ⟨0, 0, 20, fun w hr => readS_fin ao len cap bs t w hr hl ht h, .inl ⟨rfl, rfl, rfl, h⟩⟩
  · exact ⟨0, 0, 21, fun w hr => readS_lng ao len cap bs t w hr hl h, .inr (.inl ⟨rfl, rfl, rfl, .inl h⟩)⟩
  · by_cases hb : c = 10 ∧ ¬ (bs (a + 9) = 0 ∨ bs (a + 9) = 127)
    · obtain ⟨rfl, hb⟩ := hb
      exact ⟨0, 0, 21, fun w hr => readS_bad ao len cap a bs w hr hbs hl h hb, .inr (.inl ⟨rfl, rfl, rfl, .inr ⟨a, rfl, h, hb⟩⟩)⟩
    · have hb' : c = 10 → bs (a + 9) = 0 ∨ bs (a + 9) = 127 := fun e => Classical.byContradiction fun hn => hb ⟨e, hn⟩
      exact ⟨_, _, 0, fun w hr => readS_num ao len cap a c bs w hr hbs hl h hb', .inr (.inr ⟨a, c, rfl, h, hb', rfl, rfl, rfl⟩)⟩

/-- A written row: where it lies, in every later world. -/
theorem Own.row {w : World} {base : Nat} {v : Value} {xs : List Int} (h : Own w base v xs) (hne : 1 ≤ xs.length) :
    ∃ g cap, v = .slice (some ⟨g, 0, none⟩) xs.length cap ∧ xs.length ≤ cap ∧ cap ≤ 9223372036854775807 ∧ ∀ W, Below w.heap.size w W → Row W (some ⟨g, 0, none⟩) xs.length (fun i => xs.getD i 0) := by
  obtain ⟨g, cap, hv, _, hg, hc⟩ := h.lies hne
  have hcap : xs.length ≤ cap ∧ cap ≤ maxLen := by
    rcases h.2 with ⟨_, hn⟩ | ⟨g', cap', cur, hv', _, _, h1, h2, _⟩
    · omega
    · rw [hv] at hv'; cases hv'; exact ⟨h1, h2⟩
  refine ⟨g, cap, hv, hcap.1, by have := hcap.2; unfold maxLen at this; omega, fun W hb => .inr ⟨g, 0, rfl, fun i hi => ?_⟩⟩
  rw [Nat.zero_add, hb.cell (p := ⟨g, i, none⟩) hg]
  exact hc i hi

theorem Row.front {w : World} {ao : Option Addr} {len : Nat} {bs : Nat → Int} (h : Row w ao len bs) {m : Nat} (hm : m ≤ len) : Row w ao m bs := by
  rcases h with h | ⟨b, off, e, h⟩
  · exact .inl (by omega)
  · exact .inr ⟨b, off, e, fun i hi => h i (by omega)⟩

theorem uleb_row (n : Int) (w : World) (L : Nat) (hL : (ul (n % 18446744073709551616).toNat).length = L) :
    Calls Try.prog 41 #[.int .i64 n] w fun e w' => ∃ g cap, e = .returned (.slice (some ⟨g, 0, none⟩) L cap) ∧ L ≤ cap ∧ cap ≤ 9223372036854775807 ∧ (∀ W, Below w'.heap.size w' W → Row W (some ⟨g, 0, none⟩) L (fun i => (ul (n % 18446744073709551616).toNat).getD i 0)) ∧ Below w.heap.size w w' := by
  refine (uleb_any n w).mono ?_
  rintro e w' ⟨v, rfl, hown, hb⟩
  obtain ⟨g, cap, rfl, h1, h2, F⟩ := hown.row (ul_len_pos _)
  rw [hL] at h1 F
  exact ⟨g, cap, by rw [hL], h1, h2, F, hb⟩

theorem sleb_row (n : Int) (w : World) (hn : -9223372036854775808 ≤ n ∧ n ≤ 9223372036854775807) (L : Nat) (hL : (sl n).length = L) :
    Calls Try.prog 61 #[.int .i64 n] w fun e w' => ∃ g cap, e = .returned (.slice (some ⟨g, 0, none⟩) L cap) ∧ L ≤ cap ∧ cap ≤ 9223372036854775807 ∧ (∀ W, Below w'.heap.size w' W → Row W (some ⟨g, 0, none⟩) L (fun i => (sl n).getD i 0)) ∧ Below w.heap.size w w' := by
  refine (sleb_any n w hn).mono ?_
  rintro e w' ⟨v, rfl, hown, hb⟩
  obtain ⟨g, cap, rfl, h1, h2, F⟩ := hown.row (sl_len_pos _)
  rw [hL] at h1 F
  exact ⟨g, cap, by rw [hL], h1, h2, F, hb⟩
end Go.Proofs.Ytbhdledlahbokaa

/- One symbol read. -/
import Derived.Test.YtpdcbokcoaienaaDoorSRd
import Derived.Test.YtpdcbokcoaienaaDoorSEnt
namespace Go.Proofs.YtpdcbokcoaienaaDoor
open Go.ChangeShapes Go.WideShapes Go.ChangeAt Go.RowKit
set_option linter.unusedVariables false
set_option linter.unusedSimpArgs false

/-- What both Ats answer. -/
def AtOk (len : Nat) (bs : Nat → Int) (t : Int) (p : ByteArray × Int) : Prop :=
  p.1.size ≤ 255 ∧ (∀ ao cap w, Row w ao len bs → len ≤ cap → cap ≤ 9223372036854775807 → Calls Tryd.prog 64 #[.slice ao len cap, .int .i64 t] w fun e w' => e = .returned (.tuple #[.string p.1, .int .i64 p.2]) ∧ w' = w) ∧
      (∀ ao cap w, Row w ao len bs → len ≤ cap → cap ≤ 9223372036854775807 → Calls Tryd.prog 35 #[.slice ao len cap, .int .i64 t] w fun e w' => e = .returned (.tuple #[.string p.1, .int .i64 p.2]) ∧ w' = w)

theorem at_is2 (len : Nat) (bs : Nat → Int) (t : Int) (hbs : ∀ i, 0 ≤ bs i ∧ bs i < 256) (hl : len ≤ 140737488351232) : ∃ p, AtOk len bs t p := by
  by_cases ho : t < 0 ∨ (len : Int) ≤ t
  · exact ⟨(ByteArray.empty, 11), by simp, fun ao cap w _ _ _ => at_out ao len cap t w (by omega) ho, fun ao cap w _ _ _ => rat_out ao len cap t w (by omega) ho⟩
  · obtain ⟨a, rfl⟩ := Int.eq_ofNat_of_zero_le (show 0 ≤ t by omega)
    have ha : a < len := by omega
    have row : ∀ {w : World} {ao : Option Addr}, Row w ao len bs → ∃ b off, ao = some ⟨b, off, none⟩ ∧ ∀ i, i < len → w.cell? ⟨b, off + i, none⟩ = some (.int .u8 (bs i)) := fun h => by
      rcases h with h | h
      · omega
      · exact h
    rcases text_sorts len bs a with h | ⟨a', j, e, h⟩
    · have hz : ∀ i, a ≤ i → i < len → bs i ≠ 0 := by
        rcases h with h | h | ⟨a', e, _, hz⟩
        · omega
        · omega
        · obtain rfl : a = a' := by omega
          exact hz
      refine ⟨(ByteArray.empty, 20), by simp, fun ao cap w hr hc hd => ?_, fun ao cap w hr hc hd => ?_⟩
      · obtain ⟨b, off, rfl, hcell⟩ := row hr
        exact at_no b off len cap a bs w (by omega) hbs hc hd hcell ha hz
      · obtain ⟨b, off, rfl, hcell⟩ := row hr
        exact rat_no b off len cap a bs w (by omega) hcell ha hz
    · obtain rfl : a = a' := by omega
      by_cases hj : j - a ≤ 255
      · refine ⟨(txt bs a j, 0), by rw [txt_size]; exact hj, fun ao cap w hr hc hd => ?_, fun ao cap w hr hc hd => ?_⟩
        · obtain ⟨b, off, rfl, hcell⟩ := row hr
          exact at_at b off len cap a j bs w (by omega) hbs hc hd hcell h hj
        · obtain ⟨b, off, rfl, hcell⟩ := row hr
          exact rat_at b off len cap a j bs w (by omega) hc hd hcell h hj
      · refine ⟨(ByteArray.empty, 6), by simp, fun ao cap w hr hc hd => ?_, fun ao cap w hr hc hd => ?_⟩
        · obtain ⟨b, off, rfl, hcell⟩ := row hr
          exact at_long b off len cap a j bs w (by omega) hbs hc hd hcell h (by omega)
        · obtain ⟨b, off, rfl, hcell⟩ := row hr
          exact rat_long b off len cap a j bs w (by omega) hc hd hcell h (by omega)

theorem text_one {len : Nat} {bs : Nat → Int} {a j k : Nat} (h : TextAt len bs a j) (g : TextAt len bs a k) : j = k := by
  obtain ⟨h1, h2, h3, h4⟩ := h
  obtain ⟨g1, g2, g3, g4⟩ := g
  by_cases e : j < k
  · exact absurd h3 (g4 j h1 e)
  · by_cases e' : k < j
    · exact absurd g3 (h4 k g1 e')
    · omega
/-- Where a short text stands, it is the answer. -/
def AtPin (len : Nat) (bs : Nat → Int) (t : Int) (p : ByteArray × Int) : Prop := ∀ a j : Nat, t = a → TextAt len bs a j → j - a ≤ 255 → p = (txt bs a j, 0)
theorem at_is3 (len : Nat) (bs : Nat → Int) (t : Int) (hbs : ∀ i, 0 ≤ bs i ∧ bs i < 256) (hl : len ≤ 140737488351232) : ∃ p, AtOk len bs t p ∧ AtPin len bs t p := by
  by_cases hp : ∃ a j : Nat, t = a ∧ TextAt len bs a j ∧ j - a ≤ 255
  · obtain ⟨a, j, rfl, h, hj⟩ := hp
    have row : ∀ {w : World} {ao : Option Addr}, Row w ao len bs → ∃ b off, ao = some ⟨b, off, none⟩ ∧ ∀ i, i < len → w.cell? ⟨b, off + i, none⟩ = some (.int .u8 (bs i)) := fun hr => by
      rcases hr with h' | h'
      · have := h.2.1; omega
      · exact h'
    refine ⟨(txt bs a j, 0), ⟨by rw [txt_size]; exact hj, fun ao cap w hr hc hd => ?_, fun ao cap w hr hc hd => ?_⟩, fun a' j' e h' _ => ?_⟩
    · obtain ⟨b, off, rfl, hcell⟩ := row hr
      exact at_at b off len cap a j bs w (by omega) hbs hc hd hcell h hj
    · obtain ⟨b, off, rfl, hcell⟩ := row hr
      exact rat_at b off len cap a j bs w (by omega) hc hd hcell h hj
    · obtain rfl : a = a' := by omega
      obtain rfl := text_one h h'
      rfl
  · obtain ⟨p, h⟩ := at_is2 len bs t hbs hl
    exact ⟨p, h, fun a j e h' hj => absurd ⟨a, j, e, h', hj⟩ hp⟩

noncomputable def atP (len : Nat) (bs : Nat → Int) (t : Int) : ByteArray × Int := Classical.epsilon fun p => AtOk len bs t p ∧ AtPin len bs t p
theorem atP_both (len : Nat) (bs : Nat → Int) (t : Int) (hbs : ∀ i, 0 ≤ bs i ∧ bs i < 256) (hl : len ≤ 140737488351232) : AtOk len bs t (atP len bs t) ∧ AtPin len bs t (atP len bs t) := Classical.epsilon_spec (p := fun p => AtOk len bs t p ∧ AtPin len bs t p) (at_is3 len bs t hbs hl)
theorem atP_ok (len : Nat) (bs : Nat → Int) (t : Int) (hbs : ∀ i, 0 ≤ bs i ∧ bs i < 256) (hl : len ≤ 140737488351232) : AtOk len bs t (atP len bs t) := (atP_both len bs t hbs hl).1
theorem atP_pin (len : Nat) (bs : Nat → Int) (t : Int) (hbs : ∀ i, 0 ≤ bs i ∧ bs i < 256) (hl : len ≤ 140737488351232) : AtPin len bs t (atP len bs t) := (atP_both len bs t hbs hl).2

/-- Where a field begins, and how long it is. -/
def fo (k : Nat) : Nat := [0, 4, 5, 6, 8, 16, 24].getD k 0
def fs (k : Nat) : Nat := [4, 1, 1, 2, 8, 8].getD k 0
def fN (I : In) (a k : Nat) : Int := wrap64 (bacc I.f1 (a + fo k) (fs k))
theorem fo_succ : ∀ k, k < 6 → fo (k + 1) = fo k + fs k := by decide
theorem fs_size : ∀ k, k < 6 → fs k = 1 ∨ fs k = 2 ∨ fs k = 4 ∨ fs k = 8 := by decide

/-- One symbol, where there is room for it. -/
noncomputable def symM (I : In) (a : Nat) : Option Sym :=
  if (atP I.n2 I.f2 (fN I a 0)).2 = 0 then (secM I.ss (fN I a 3)).map fun sc => ⟨(atP I.n2 I.f2 (fN I a 0)).1, sc, fN I a 4, fN I a 5, IntKind.i64.wrap ((fN I a 1).tdiv 16), (fN I a 1).tmod 16⟩ else none
noncomputable def symF (I : In) (a : Nat) : Option Sym := if a + 24 ≤ I.n1 then symM I a else none

def SymEnds (m : Option Sym) (w0 : World) (rb : Nat) (I : In) (a : Nat) (w : World) (e : Ending) (w' : World) : Prop :=
  match m with
  | some s => e = .returned s.val ∧ RD w0 w' rb I (a + 24) ∧ Turn (fun k => k = rb) w w'
  | none => e = bad80 ∧ Turn (fun k => k = rb) w w'

/-- The fields read so far lie in block F. -/
structure FD (wr : World) (F : Nat) (N : Nat → Int) (k : Nat) : Prop where
  c : ∀ j, j < 6 → wr.cell? ⟨F, j, none⟩ = some (.int .i64 (if j < k then N j else 0))
  fz : ∀ j, wr.frozen? ⟨F, j, none⟩ = false

theorem FD.turn {w w' : World} {F : Nat} {N : Nat → Int} {k : Nat} (h : FD w F N k) {S : Nat → Prop} (ht : Turn S w w') (h1 : ¬ S F) : FD w' F N k := by
  have hl : F < w.heap.size := World.block_lt_of_cell? w ⟨F, 0, none⟩ (h.c 0 (by omega))
  exact ⟨fun j hj => (World.cell?_of_block (ht.block F hl h1)).trans (h.c j hj), fun j => (World.frozen?_of_block (w := w) (ht.block F hl h1)).trans (h.fz j)⟩

theorem FD.set {w : World} {F : Nat} {N : Nat → Int} {k : Nat} (h : FD w F N k) (hk : k < 6) (v : Int) (hv : v = N k) : FD (w.setCell ⟨F, k, none⟩ (.int .i64 v)) F N (k + 1) := by
  subst hv
  refine ⟨fun j hj => ?_, fun j => (World.frozen?_setCell _ _ _ _).trans (h.fz j)⟩
  by_cases e : j = k
  · subst e
    have := h.c j hj
    simp [go_sem, this]
  · have := h.c j hj
    have e2 : (j < k + 1) = (j < k) := by apply propext; omega
    simp only [e2]
    simp [go_sem, this, e]
end Go.Proofs.YtpdcbokcoaienaaDoor

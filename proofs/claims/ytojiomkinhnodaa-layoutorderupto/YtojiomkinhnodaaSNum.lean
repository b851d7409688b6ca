/- Symbols in memory; the contracts of namesOf, areTooMuch, numbersOf. -/
import Derived.Test.YtojiomkinhnodaaSSym
import Derived.Test.YtojiomkinhnodaaSRow
namespace Go.Proofs.Ytojiomkinhnodaa
open Go.ChangeShapes Go.WideShapes Go.ChangeAt Go.RowKit Go.Maps
set_option linter.unusedVariables false
set_option linter.unusedSimpArgs false

/-- A symbol lies at place o of block b. -/
structure SymAt (w : World) (b o : Nat) (s : Sym) : Prop where
  nm : w.cell? ⟨b, o, none⟩ = some (.string s.nm)
  sc : w.cell? ⟨b, o + 1, none⟩ = some (.string s.sc)
  v : w.cell? ⟨b, o + 2, none⟩ = some (.int .i64 s.v)
  z : w.cell? ⟨b, o + 3, none⟩ = some (.int .i64 s.z)
  b' : w.cell? ⟨b, o + 4, none⟩ = some (.int .i64 s.b)
  t : w.cell? ⟨b, o + 5, none⟩ = some (.int .i64 s.t)

theorem SymAt.below {w w' : World} {b o : Nat} {s : Sym} (h : SymAt w b o s) {B : Nat} (hb : Below B w w') (hB : w.heap.size ≤ B) : SymAt w' b o s := by
  have k : b < B := Nat.lt_of_lt_of_le (World.block_lt_of_cell? w ⟨b, o, none⟩ h.nm) hB
  exact ⟨(hb.cell (p := ⟨b, o, none⟩) k).trans h.nm, (hb.cell (p := ⟨b, o + 1, none⟩) k).trans h.sc, (hb.cell (p := ⟨b, o + 2, none⟩) k).trans h.v, (hb.cell (p := ⟨b, o + 3, none⟩) k).trans h.z, (hb.cell (p := ⟨b, o + 4, none⟩) k).trans h.b', (hb.cell (p := ⟨b, o + 5, none⟩) k).trans h.t⟩

/-- Symbols that lie in memory. -/
def Syms (w : World) (ao : Option Addr) (l : List Sym) : Prop :=
  l = [] ∨ ∃ b off, ao = some ⟨b, off, none⟩ ∧ ∀ i, i < l.length → SymAt w b (off + i * 6) (l.getD i Sym.none)

theorem Syms.below {w w' : World} {ao : Option Addr} {l : List Sym} (h : Syms w ao l) {B : Nat} (hb : Below B w w') (hB : w.heap.size ≤ B) : Syms w' ao l := by
  rcases h with h | ⟨b, off, e, h⟩
  · exact .inl h
  · exact .inr ⟨b, off, e, fun i hi => (h i hi).below hb hB⟩

/-- append of one name, wherever its own cell lies. -/
theorem append_nameQ {ops : Array Oper} {rest : List Oper} {o : Oper} {a : Act} {Q : Exit → Act → World → Prop} (w : World) (hgd : o.guard = none) (s x : Operand)
    (ho : o.op = .call { callee := .builtin .append, args := #[s, x], argTypes := #[67, 67] })
    (base : Nat) (v : Value) (l : List ByteArray) (hs : a.eval s = v) (hown : OwnS w base v l) (y : ByteArray) (q : Nat) (hx : a.eval x = .slice (some ⟨q, 0, none⟩) 1 1) (hq : q = w.heap.size)
    (hn : l.length + 1 ≤ 8796093022208) (hbase : base ≤ w.heap.size)
    (h : ∀ v' w', OwnS w' base v' (l ++ [y]) → Step w w' v v' → wpList Try.prog ops Q rest (a.put o.dst v') w') :
    wpList Try.prog ops Q (o :: rest) a (w.alloc (.cells #[.string y] 9)) := by
  subst hq
  exact append_name w hgd s x ho base v l hs hown y hx hn hbase h

set_option maxHeartbeats 1000000 in
set_option maxRecDepth 10000 in
theorem namesOf_any (ao : Option Addr) (c : Nat) (l : List Sym) (w : World) (hl : l.length ≤ 8796093022207) (hr : Syms w ao l) :
    Calls Try.prog 75 #[.slice ao l.length c] w fun e w' => ∃ v, e = .returned v ∧ OwnS w' w.heap.size v (l.map Sym.nm) ∧ Below w.heap.size w w' := by
  have HR : Hid (Syms w ao l) := ⟨hr⟩
  clear hr
  go_enter Try.func75, Try.ntmps75
  go_wp2
  go_loopw [8, 3] (fun i v wr => ∃ k : Nat, k ≤ l.length ∧ i = .int .i64 k ∧ Hid (OwnS wr w.heap.size v ((l.take k).map Sym.nm)) ∧ Hid (Below w.heap.size w wr)) (fun i _ _ => l.length - (intOf i).toNat)
  case atStart => exact ⟨0, by omega, rfl, ⟨by simpa using OwnS.nil _ _⟩, ⟨Below.refl _ _⟩⟩
  case round =>
    obtain ⟨k, hk, rfl, HO, HB⟩ := hrel
    by_cases hlt : k < l.length
    · obtain ⟨b, off, rfl, hcell⟩ : ∃ b off, ao = some ⟨b, off, none⟩ ∧ ∀ i, i < l.length → SymAt wr b (off + i * 6) (l.getD i Sym.none) := by
        rcases HR.out.below HB.out (Nat.le_refl _) with h | h
        · subst h; simp at hlt
        · exact h
      obtain ⟨c0, c1, c2, c3, c4, c5⟩ := hcell k hlt
      have hget : l.getD k Sym.none = l[k] := by simp [hlt]
      have HT : Hid ((l.take (k + 1)).map Sym.nm = (l.take k).map Sym.nm ++ [l[k].nm]) := ⟨by rw [List.take_succ_eq_append_getElem hlt, List.map_append]; rfl⟩
      have hlen : ((l.take k).map Sym.nm).length = k := by rw [List.length_map, List.length_take]; omega
      rw [hget] at c0 c1 c2 c3 c4 c5
      generalize l[k] = s at *
      have hbs := HB.out.size
      have HO2 := HO.out
      have HA : OwnS (wr.alloc (.cells #[.string s.nm, .string s.sc, .int .i64 s.v, .int .i64 s.z, .int .i64 s.b, .int .i64 s.t] 80)) w.heap.size u3 ((l.take k).map Sym.nm) := World.ownsRow.alloc HO.out _
      have HHA : Hid _ := ⟨HA⟩
      clear hcell hget HO2 HA
      have HB2 := (HB.out.alloc HB.out.size (.cells #[.string s.nm, .string s.sc, .int .i64 s.v, .int .i64 s.z, .int .i64 s.b, .int .i64 s.t] 80))
      have HHB : Hid _ := ⟨HB2⟩
      clear HB2
      go_wp2_with (at_builtin; refine append_nameQ _ rfl _ _ rfl w.heap.size _ _ rfl HHA.out s.nm _ rfl (by simp) (by rw [hlen]; omega) (by simp; omega) ?_; intro v1 w1 hr1 hs1)
      go_roundw
      case rel => exact ⟨k + 1, hlt, by go_num, ⟨by rw [HT.out]; exact hr1⟩, ⟨HHB.out.trans (hs1.below HHA.out HHB.out.size)⟩⟩
      case measure => simp [intOf]; omega
    · obtain rfl : k = l.length := by omega
      have ho := HO.out
      rw [List.take_of_length_le (Nat.le_refl _)] at ho
      have HO2 : Hid _ := ⟨ho⟩
      clear ho
      go_wp2
      go_ret
      exact ⟨_, rfl, HO2.out, HB.out⟩
end Go.Proofs.Ytojiomkinhnodaa

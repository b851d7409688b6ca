/- Parts of a list of pages, and pages that are copied behind a row of the call's own. -/
import Derived.Test.YtpfmnopokfiheaaDProt
namespace Go.Proofs.Ytpfmnopokfiheaa
open Go.ChangeShapes Go.WideShapes Go.ChangeAt Go.RowKit Go.Maps
set_option linter.unusedVariables false
set_option linter.unusedSimpArgs false

theorem infoP3 : (Try.prog.info? 78).map (fun i => (i.zero, i.size, i.bytes)) = some (some (.agg #[.int .u64 0, .int .i64 0, .slice none 0 0]), 3, 40) := by kernel_rfl
theorem infoP : (Try.prog.info? 78).map (·.size) = some 3 := by kernel_rfl

/-- Pages that lie in memory, as a slice's. -/
structure PgS (w : World) (pb : Nat → Nat) (ao : Option Addr) (c : Nat) (m : List Pz) : Prop where
  nil' : ao = none → m = [] ∧ c = 0
  at' : ∀ j u, (pzs pb m)[j]? = some u → ∃ b off, ao = some ⟨b, off, none⟩ ∧ w.cell? ⟨b, off + j, none⟩ = some u
theorem PgS.below {w w' : World} {pb : Nat → Nat} {ao : Option Addr} {c : Nat} {m : List Pz} (h : PgS w pb ao c m) (hb : Below w.heap.size w w') : PgS w' pb ao c m :=
  ⟨h.nil', fun j u hj => by
    obtain ⟨b, off, e, hc⟩ := h.at' j u hj
    exact ⟨b, off, e, (hb.cell (p := ⟨b, off + j, none⟩) (World.block_lt_of_cell? _ _ hc)).trans hc⟩⟩

theorem slP_to (b n cap s : Nat) (hs : s ≤ n) (hc : n ≤ cap) (W : World) :
    (Instr.slice 26 (.slice (some ⟨b, 0, none⟩) n cap) none (some (.int .i64 (s : Int))) none).run Try.prog W = .ok (.slice (some ⟨b, 0, none⟩) s cap) W := by
  have hs0 := infoP
  cases hq : Try.prog.info? 78 with
  | none => rw [hq] at hs0; cases hs0
  | some i =>
    have hi1 : i.size = 3 := by rw [hq] at hs0; simpa using hs0
    have g2 : (0 : Int) ≤ (s : Int) ∧ (s : Int) ≤ (cap : Int) := by omega
    by_cases e : cap = 0
    · simp [Instr.slice, run_underlying Try.underlying26, Instr.sliceBounds, Instr.sliceBound, asIntOf, g2, sizeOf, typeInfo, hq, hi1, e, addr_add]
      omega
    · simp [Instr.slice, run_underlying Try.underlying26, Instr.sliceBounds, Instr.sliceBound, asIntOf, g2, sizeOf, typeInfo, hq, hi1, e, addr_add]
      omega
theorem slP_from (b n cap c : Nat) (hc : c ≤ n) (hcap : n ≤ cap) :
    ∃ dp, (∀ W, (Instr.slice 26 (.slice (some ⟨b, 0, none⟩) n cap) (some (.int .i64 (c : Int))) none none).run Try.prog W = .ok (.slice (some dp) (n - c) (cap - c)) W) ∧ (c < n → dp = ⟨b, c * 3, none⟩) := by
  have hs0 := infoP
  cases hq : Try.prog.info? 78 with
  | none => rw [hq] at hs0; cases hs0
  | some i =>
    have hi1 : i.size = 3 := by rw [hq] at hs0; simpa using hs0
    have g2 : (0 : Int) ≤ (c : Int) ∧ (c : Int) ≤ (n : Int) := by omega
    refine ⟨if cap = c then ⟨b, 0, none⟩ else ⟨b, c * 3, none⟩, fun W => ?_, fun h => by rw [if_neg (by omega)]⟩
    by_cases e : cap = c
    · simp [Instr.slice, run_underlying Try.underlying26, Instr.sliceBounds, Instr.sliceBound, asIntOf, g2, sizeOf, typeInfo, hq, hi1, e, addr_add]
      omega
    · simp [Instr.slice, run_underlying Try.underlying26, Instr.sliceBounds, Instr.sliceBound, asIntOf, g2, sizeOf, typeInfo, hq, hi1, e, addr_add]
      omega
theorem slP_nil1 (W : World) : (Instr.slice 26 (.slice none 0 0) none (some (.int .i64 0)) none).run Try.prog W = .ok (.slice none 0 0) W := by kernel_rfl
theorem slP_nil2 (W : World) : (Instr.slice 26 (.slice none 0 0) (some (.int .i64 0)) none none).run Try.prog W = .ok (.slice none 0 0) W := by kernel_rfl

theorem pzs_drop (pb : Nat → Nat) (L : List Pz) (n : Nat) : (pzs pb L).drop (n * 3) = pzs pb (L.drop n) := by
  induction L generalizing n with
  | nil => simp [pzs]
  | cons p L ih =>
    cases n with
    | zero => simp
    | succ n =>
      show (p.cells pb ++ pzs pb L).drop ((n + 1) * 3) = pzs pb (L.drop n)
      rw [← ih n, show (n + 1) * 3 = (p.cells pb).length + n * 3 by simp [Pz.cells]; omega, List.drop_length_add_append]
theorem pzs_take (pb : Nat → Nat) (L : List Pz) (n : Nat) : (pzs pb L).take (n * 3) = pzs pb (L.take n) := by
  induction L generalizing n with
  | nil => simp [pzs]
  | cons p L ih =>
    cases n with
    | zero => simp [pzs]
    | succ n =>
      show (p.cells pb ++ pzs pb L).take ((n + 1) * 3) = p.cells pb ++ pzs pb (L.take n)
      rw [← ih n, show (n + 1) * 3 = (p.cells pb).length + n * 3 by simp [Pz.cells]; omega, List.take_length_add_append]

theorem OwnP.cellA {w : World} {base b cap : Nat} {pb : Nat → Nat} {L : List Pz} (h : OwnP w base (.slice (some ⟨b, 0, none⟩) L.length cap) pb L) (j : Nat) (u : Value) (hj : (pzs pb L)[j]? = some u) : w.cell? ⟨b, j, none⟩ = some u := by
  have hl := h.1
  have : j < L.length * 3 := by
    have := (List.getElem?_eq_some_iff.1 hj).1
    rwa [pzs_len] at this
  rw [h.cellAt j (by omega)]
  exact hj

/-- A list's first pages. -/
theorem OwnP.to' {w : World} {base : Nat} {v : Value} {pb : Nat → Nat} {L : List Pz} (h : OwnP w base v pb L) {s : Nat} (hs : s ≤ L.length) :
    ∃ ao c, (∀ W, (Instr.slice 26 v none (some (.int .i64 (s : Int))) none).run Try.prog W = .ok (.slice ao s c) W) ∧ PgS w pb ao c (L.take s) := by
  obtain ⟨ao, cap, rfl, h1, h2, h3, h4, h5⟩ := h.any
  rcases ao with _ | ⟨b, o, c⟩
  · obtain ⟨rfl, rfl⟩ := h3 rfl
    obtain rfl : s = 0 := by simpa using hs
    exact ⟨none, 0, slP_nil1, fun _ => ⟨rfl, rfl⟩, fun j u hj => by simp [pzs] at hj⟩
  · obtain ⟨rfl, rfl⟩ := h4 b o c rfl
    refine ⟨_, cap, slP_to b _ cap s hs h1, fun e => (by cases e), fun j u hj => ⟨b, 0, rfl, ?_⟩⟩
    rw [Nat.zero_add]
    refine h.cellA j u ?_
    rw [← pzs_take, List.getElem?_take] at hj
    split at hj
    · exact hj
    · cases hj
/-- A list's last pages. -/
theorem OwnP.from' {w : World} {base : Nat} {v : Value} {pb : Nat → Nat} {L : List Pz} (h : OwnP w base v pb L) {s : Nat} (hs : s ≤ L.length) :
    ∃ ao c, (∀ W, (Instr.slice 26 v (some (.int .i64 (s : Int))) none none).run Try.prog W = .ok (.slice ao (L.length - s) c) W) ∧ PgS w pb ao c (L.drop s) := by
  obtain ⟨ao, cap, rfl, h1, h2, h3, h4, h5⟩ := h.any
  rcases ao with _ | ⟨b, o, c⟩
  · obtain ⟨rfl, rfl⟩ := h3 rfl
    obtain rfl : s = 0 := by simpa using hs
    exact ⟨none, 0, slP_nil2, fun _ => ⟨rfl, rfl⟩, fun j u hj => by simp [pzs] at hj⟩
  · obtain ⟨rfl, rfl⟩ := h4 b o c rfl
    obtain ⟨dp, hr, hd⟩ := slP_from b L.length cap s hs h1
    refine ⟨some dp, cap - s, hr, fun e => (by cases e), fun j u hj => ?_⟩
    have hlt : s < L.length := by
      refine Classical.byContradiction fun c => ?_
      rw [List.drop_eq_nil_of_le (by omega)] at hj
      simp [pzs] at hj
    refine ⟨b, s * 3, by rw [hd hlt], ?_⟩
    refine h.cellA _ u ?_
    rw [← pzs_drop, List.getElem?_drop] at hj
    exact hj

/-- Pages, copied behind a row of the call's own. -/
theorem append_pgs {ops : Array Oper} {rest : List Oper} {o : Oper} {a : Act} {Q : Exit → Act → World → Prop} (w : World) (hgd : o.guard = none) (s x : Operand)
    (ho : o.op = .call { callee := .builtin .append, args := #[s, x], argTypes := #[26, 26] })
    (base : Nat) (v : Value) (pb : Nat → Nat) (l : List Pz) (hs : a.eval s = v) (hown : OwnP w base v pb l) (ao : Option Addr) (c N : Nat) (m : List Pz) (hx : a.eval x = .slice ao N c) (hN : N = m.length) (hr : PgS w pb ao c m)
    (hn : l.length + m.length ≤ 1048576) (hbase : base ≤ w.heap.size)
    (h : ∀ v' w', OwnP w' base v' pb (l ++ m) → Below base w w' → Turn (fun k => v.ownBlock = some k) w w' → wpList Try.prog ops Q rest (a.put o.dst v') w') :
    wpList Try.prog ops Q (o :: rest) a w := by
  subst hN
  obtain ⟨i0, hi, hz0, hz1, hz2⟩ := info_parts infoP3
  cases ao with
  | none =>
    obtain ⟨rfl, rfl⟩ := hr.nil' rfl
    refine wpList_append_own_none hgd s x 26 ho base 78 i0 3 Try.underlying26 hi _ _ _ hs hown hx ?_
    exact h v w (by simpa using hown) (Below.refl _ _) (Turn.refl _ _)
  | some ad =>
    refine wpList_append_own _ hgd s x 26 ho base 78 i0 _ 3 40 Try.underlying26 hi hz0 hz1 hz2 rfl (by decide) _ l.length _ hs hown ad m.length c (pzs pb m) hx (pzs_len pb m) ?_ (pzs_one pb m) (by unfold maxLen; omega) (by omega) hbase ?_
    · intro j u hj
      obtain ⟨b, off, e, hc⟩ := hr.at' j u hj
      cases e
      rw [addr_add]
      exact hc
    · intro v' w' hown' hgrow hnn
      refine h v' w' ?_ ((Below.refl base w).grown hgrow hbase (own_block hown)) ((Turn.refl _ w).grown hgrow (fun k _ e => e))
      unfold OwnP
      rw [pzs_append, List.length_append]
      exact hown'
end Go.Proofs.Ytpfmnopokfiheaa

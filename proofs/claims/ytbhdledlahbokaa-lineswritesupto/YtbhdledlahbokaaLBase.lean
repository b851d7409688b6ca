/- Bytes and blocks of the call's own: what is appended, what is written over. -/
import Derived.Test.YtbhdledlahbokaaLComm
import Derived.Test.YtbhdledlahbokaaGroups
import Derived.Test.YtbhdledlahbokaaRefPut
import Derived.Test.YtbhdledlahbokaaLaw
import Derived.Test.YtbhdledlahbokaaSums
import Derived.Test.YtbhdledlahbokaaBackPlain
import Derived.Laws.Tables
import Derived.Laws.AppendOwnNone
import Derived.Great.BuildSlice
import Derived.Maps.AppendAt
import Derived.Deep.RegionHeld3
import Derived.Deep.MidRow
import Derived.Deep.CutRange
import Derived.BigQuiet
import Derived.Deep.QuietTactic
import Derived.Shelf.Abstract
namespace Go.Proofs.Ytbhdledlahbokaa
open Go.ChangeShapes Go.WideShapes Go.ChangeAt Go.RowKit
set_option linter.unusedVariables false
set_option linter.unusedSimpArgs false

theorem caddr_add (b o k : Nat) : (⟨b, o, none⟩ : Addr).add k = ⟨b, o + k, none⟩ := by unfold Addr.add; split <;> simp_all
theorem own_block {w : World} {base e s n : Nat} {v : Value} {xs : List Value} (h : w.ownsRow base e s v n xs) : ∀ k, v.ownBlock = some k → base ≤ k := fun k hk => (h.lt k hk).1
/-- Bytes that lie in memory. -/
def Bt (w : World) (v : Value) (xs : List Int) : Prop := ∃ ao cap, v = .slice ao xs.length cap ∧ Row w ao xs.length (fun i => xs.getD i 0) ∧ (ao = none → xs.length = 0 ∧ cap = 0)
theorem Bt.bel {w w' : World} {v : Value} {xs : List Int} (h : Bt w v xs) (hb : Below w.heap.size w w') : Bt w' v xs := by
  obtain ⟨ao, cap, h1, h2, h3⟩ := h
  exact ⟨ao, cap, h1, h2.below hb (Nat.le_refl _), h3⟩
theorem Own.bt {w : World} {base : Nat} {v : Value} {xs : List Int} (h : Own w base v xs) : Bt w v xs := by
  by_cases h0 : 1 ≤ xs.length
  · obtain ⟨g, cap, rfl, _, _, hc⟩ := h.lies h0
    exact ⟨_, cap, rfl, .inr ⟨g, 0, rfl, fun i hi => by rw [Nat.zero_add]; exact hc i hi⟩, fun e => by cases e⟩
  · have h0' : xs.length = 0 := by omega
    rcases h.2 with ⟨rfl, _⟩ | ⟨g, cap, cur, rfl, _⟩
    · exact ⟨none, 0, by rw [h0'], .inl h0', fun _ => ⟨h0', rfl⟩⟩
    · exact ⟨_, cap, rfl, .inl h0', fun e => by cases e⟩
theorem bt_lit (w : World) (x : Int) : Bt (w.alloc (.cells #[.int .u8 x] 5)) (.slice (some ⟨w.heap.size, 0, none⟩) 1 1) [x] :=
  ⟨_, 1, rfl, .inr ⟨w.heap.size, 0, rfl, fun i hi => by
    have : i = 0 := by simpa using hi
    subst this
    simp⟩, fun e => by cases e⟩
theorem own_lit (w : World) (x : Int) : Own (w.alloc (.cells #[.int .u8 x] 5)) w.heap.size (.slice (some ⟨w.heap.size, 0, none⟩) 1 1) [x] :=
  ⟨rfl, .inr ⟨w.heap.size, 1, #[.int .u8 x], rfl, Nat.le_refl _, heap_alloc_new w _, Nat.le_refl _, by unfold maxLen; omega, rfl, rfl⟩⟩
theorem Own.bel {w w' : World} {base : Nat} {v : Value} {xs : List Int} (h : Own w base v xs) (hb : Below w.heap.size w w') : Own w' base v xs :=
  World.ownsRow.kept (row := none) h ⟨hb.os, hb.tape, hb.output, hb.size, fun j hj _ => hb.block j hj⟩ (by cases hv : v.ownBlock <;> simp)
theorem Own.low {w : World} {b b' : Nat} {v : Value} {xs : List Int} (h : Own w b v xs) (hb : b' ≤ b) : Own w b' v xs := by
  refine ⟨h.1, ?_⟩
  rcases h.2 with hv | ⟨g', c', cur, hv, h2, h3⟩
  · exact .inl hv
  · exact .inr ⟨g', c', cur, hv, by omega, h3⟩

def ulB (n : Int) : List Int := ul (n % 18446744073709551616).toNat
theorem ulB_len (n : Int) : (ulB n).length ≤ 10 := ul_len10 _ (by omega)
/-- Bytes that were made behind bytes: nothing but their block has turned. -/
structure AE (base : Nat) (w : World) (v : Value) (w' : World) (v' : Value) (ys : List Int) : Prop where
  own : Own w' base v' ys
  gr : w.grownBy w' v.ownBlock
  bk : v'.ownBlock = v.ownBlock ∨ ∀ k, v'.ownBlock = some k → w.heap.size ≤ k
section
variable {base : Nat} {w w1 w2 : World} {v v1 v2 : Value} {xs ys : List Int}
theorem AE.refl (h : Own w base v xs) : AE base w v w v xs := ⟨h, ⟨rfl, rfl, rfl, Nat.le_refl _, fun _ _ _ => rfl⟩, .inl rfl⟩
theorem AE.trans (h1 : AE base w v w1 v1 xs) (h2 : AE base w1 v1 w2 v2 ys) : AE base w v w2 v2 ys := by
  refine ⟨h2.own, ⟨h2.gr.os.trans h1.gr.os, h2.gr.tape.trans h1.gr.tape, h2.gr.output.trans h1.gr.output, Nat.le_trans h1.gr.size h2.gr.size, fun k hk hn => ?_⟩, ?_⟩
  · rw [h2.gr.block k (Nat.lt_of_lt_of_le hk h1.gr.size) (fun e => ?_)]
    · exact h1.gr.block k hk hn
    · rcases h1.bk with hb | hb
      · exact hn (e.trans hb)
      · have := hb k e.symm; omega
  · rcases h2.bk with hb | hb
    · rcases h1.bk with hb1 | hb1
      · exact .inl (hb.trans hb1)
      · exact .inr fun k hk => hb1 k (hb ▸ hk)
    · exact .inr fun k hk => Nat.le_trans h1.gr.size (hb k hk)
theorem AE.pre (hb : Below w.heap.size w w1) (h : AE base w1 v w2 v2 ys) : AE base w v w2 v2 ys := by
  refine ⟨h.own, ⟨h.gr.os.trans hb.os, h.gr.tape.trans hb.tape, h.gr.output.trans hb.output, Nat.le_trans hb.size h.gr.size, fun k hk hn => (h.gr.block k (Nat.lt_of_lt_of_le hk hb.size) hn).trans (hb.block k hk)⟩, ?_⟩
  rcases h.bk with e | e
  · exact .inl e
  · exact .inr fun k hk => Nat.le_trans hb.size (e k hk)
theorem AE.bel (h : AE base w v w1 v1 ys) (ho : Own w base v xs) (hb : base ≤ w.heap.size) : Below base w w1 :=
  ⟨h.gr.os, h.gr.tape, h.gr.output, h.gr.size, fun k hk => h.gr.block k (by omega) (fun e => by have := (ho.lt k e.symm).1; omega)⟩
theorem AE.to {zs : List Int} (h : AE base w v w1 v1 ys) (e : ys = zs) : AE base w v w1 v1 zs := e ▸ h
end
theorem append_bk {ops : Array Oper} {rest : List Oper} {o : Oper} {a : Act} {Q : Exit → Act → World → Prop} (w : World) (hgd : o.guard = none) (s x : Operand)
    (ho : o.op = .call { callee := .builtin .append, args := #[s, x], argTypes := #[30, 30] })
    (base : Nat) (v : Value) (l : List Int) (hs : a.eval s = v) (hown : Own w base v l) (u : Value) (m : List Int) (hx : a.eval x = u) (hb : Bt w u m)
    (hn : l.length + m.length ≤ 140737488355328) (hbase : base ≤ w.heap.size)
    (h : ∀ v' w', AE base w v w' v' (l ++ m) → wpList Try.prog ops Q rest (a.put o.dst v') w') :
    wpList Try.prog ops Q (o :: rest) a w := by
  obtain ⟨ao, c, rfl, hr, hnil⟩ := hb
  obtain ⟨i0, hi, hz0, hz1, hz2⟩ := info_parts info5
  cases ao with
  | none =>
    obtain ⟨h1, rfl⟩ := hnil rfl
    obtain rfl : m = [] := List.eq_nil_of_length_eq_zero h1
    refine wpList_append_own_none hgd s x 30 ho base 5 i0 1 Try.underlying30 hi _ _ _ hs hown hx ?_
    exact h v w (by simpa using AE.refl hown)
  | some ad =>
    refine wpList_append_own_at w hgd s x 30 ho base 5 i0 _ 1 1 Try.underlying30 hi hz0 hz1 hz2 rfl (by decide) _ l.length _ hs hown ad m.length c (m.map (Value.int .u8)) hx (by simp) ?_ ?_ (by unfold maxLen; omega) (by omega) hbase ?_
    · intro j u hj
      by_cases hjm : j < m.length
      · rcases hr with hr | ⟨b, off, e, hc⟩
        · omega
        · cases e
          rw [caddr_add, hc j hjm]
          simp [hjm] at hj
          simp [hjm, hj]
      · simp [hjm] at hj
    · intro u hu
      simp at hu
      obtain ⟨z, _, rfl⟩ := hu
      rfl
    · intro v' w' hown' hgrow hnn hbk
      refine h v' w' ⟨?_, hgrow, ?_⟩
      · unfold Own
        simpa using hown'
      · rcases hbk with e | e
        · exact .inl e
        · exact .inr fun k hk => by rw [e] at hk; simp at hk; omega
theorem own_far {w1 w2 : World} {b : Nat} {u : Value} {m : List Int} {row : Option Nat} (h : Own w1 b u m) (hg : w1.grownBy w2 row) (hn : row ≠ u.ownBlock) : Own w2 b u m := World.ownsRow.kept h hg (.inr (Ne.symm hn))
theorem Own.of_part {w : World} {b g n : Nat} {x : Int} (h : w.ownsRow b 5 1 (.slice (some ⟨g, 0, none⟩) n n) n (part x n n)) : Own w b (.slice (some ⟨g, 0, none⟩) n n) (pl x n) := by
  rw [part_full] at h
  unfold Own
  rw [pl_len]
  exact h

def bts (s : ByteArray) : List Int := s.data.toList.map fun c => (c.toNat : Int)
theorem bts_len (s : ByteArray) : (bts s).length = s.size := by simp [bts]
theorem bts_cells (s : ByteArray) : (bts s).map (Value.int .u8) = Lib.strCells s := by simp [bts, Lib.strCells, Function.comp_def]
theorem str_bk (w : World) (base : Nat) (ty : TypeId) (v : Value) (xs : List Int) (hown : Own w base v xs) (s : ByteArray) (hn : xs.length + s.size ≤ 140737488355328) (hbase : base ≤ w.heap.size) :
    ∃ v' w', (Builtin.append_ #[30, 9] ty #[v, .string s]).run Try.prog w = .ok v' w' ∧ AE base w v w' v' (xs ++ bts s) := by
  obtain ⟨i0, hi, hz0, hz1, hz2⟩ := info_parts info5
  obtain ⟨v', w', hr, h1, h2, h3⟩ := Lib.run_append_own_string (P := Try.prog) w base 30 9 ty 5 i0 Try.underlying30 Try.underlying9 hi hz0 hz1 hz2 v xs.length _ hown s (by unfold maxLen; omega) hn hbase
  refine ⟨v', w', hr, ⟨?_, h2, ?_⟩⟩
  · unfold Own
    rw [List.map_append, bts_cells, List.length_append, bts_len]
    exact h1
  · rcases hown.2 with ⟨rfl, hx⟩ | ⟨g, cap, cur, rfl, hbg, hg, hnc, hcm, hcs, htake⟩
    · by_cases hm : s.size = 0
      · have := h3.2 ⟨rfl, hm⟩
        subst this
        exact .inl rfl
      · have hr2 := run_append_nil_string (P := Try.prog) w 30 9 ty 5 i0 (.int .u8 0) Try.underlying30 Try.underlying9 hi hz0 s (by omega) (by omega) (by rw [hz2]; omega)
        rw [hr2] at hr
        injection hr with e1 e2
        subst e1
        exact .inr fun k hk => by simp [Value.ownBlock] at hk; omega
    · by_cases hroom : xs.length + s.size ≤ cap
      · have hcs' : cur.size = cap := by simpa using hcs
        have hr2 := Lib.run_append_room_string (P := Try.prog) w 30 9 ty 5 i0 Try.underlying30 Try.underlying9 hi hz1 g xs.length cap cur hg s hroom (by omega)
        rw [hr2] at hr
        injection hr with e1 e2
        subst e1
        exact .inl rfl
      · have holds : ∀ j u, (xs.map (Value.int .u8))[j]? = some u → w.cell? ((⟨g, 0, none⟩ : Addr).add j) = some u := World.ownsRow.cells (g := g) hown rfl
        have hr2 := Lib.run_append_grow_string (P := Try.prog) w 30 9 ty 5 i0 (.int .u8 0) Try.underlying30 Try.underlying9 hi hz0 ⟨g, 0, none⟩ xs.length cap (xs.map (Value.int .u8)) (by rw [hz1]; simp) holds s (by omega) (by omega) (by rw [hz2]; exact growslice_fits (by omega) (by omega))
        rw [hr2] at hr
        injection hr with e1 e2
        subst e1
        exact .inr fun k hk => by simp [Value.ownBlock] at hk; omega
/-- A string's bytes, copied behind a row of the call's own. -/
theorem append_str {ops : Array Oper} {rest : List Oper} {o : Oper} {a : Act} {Q : Exit → Act → World → Prop} (w : World) (hgd : o.guard = none) (sl x : Operand)
    (ho : o.op = .call { callee := .builtin .append, args := #[sl, x], argTypes := #[30, 9] })
    (base : Nat) (v : Value) (xs : List Int) (hs : a.eval sl = v) (hown : Own w base v xs) (s : ByteArray) (hx : a.eval x = .string s)
    (hn : xs.length + s.size ≤ 140737488355328) (hbase : base ≤ w.heap.size)
    (h : ∀ v' w', AE base w v w' v' (xs ++ bts s) → wpList Try.prog ops Q rest (a.put o.dst v') w') :
    wpList Try.prog ops Q (o :: rest) a w := by
  obtain ⟨v', w', hr, h1⟩ := str_bk w base o.type v xs hown s hn hbase
  refine wpList_plain hgd fun K hK => ?_
  unfold Oper.wp execOp
  simp only [ho, resolve, invoke, builtin, Sem.run_bind, Sem.run_pure, Result.andThen_ok, List.map_toArray, List.map_cons, List.map_nil, hs, hx, hr]
  exact hK _ _ (h v' w' h1)
/-- These cells lie in block b, and may be written. -/
structure Bk (w : World) (b t : Nat) (cs : Array Value) : Prop where
  hp : w.heap[b]? = some (.cells cs t (0, 0))
section
variable {w v : World} {b t : Nat} {cs : Array Value}
theorem Bk.lt (h : Bk w b t cs) : b < w.heap.size := (Array.getElem?_eq_some_iff.1 h.hp).1
theorem Bk.new (w : World) (cs : Array Value) (t : Nat) : Bk (w.alloc (.cells cs t)) w.heap.size t cs := ⟨heap_alloc_new w _⟩
theorem Bk.of (h : Bk w b t cs) (e : v.heap[b]? = w.heap[b]?) : Bk v b t cs := ⟨e.trans h.hp⟩
theorem Bk.bel (h : Bk w b t cs) {B : Nat} (g : Below B w v) (hB : b < B) : Bk v b t cs := h.of (g.block b hB)
theorem Bk.setO (h : Bk w b t cs) {c : Nat} (hc : b ≠ c) (V : Array Value) : Bk (w.setRow c V) b t cs := h.of (setRow_other _ _ _ _ hc)
theorem Bk.setR (h : Bk w b t cs) (V : Array Value) : Bk (w.setRow b V) b t V := ⟨setRow_heap w b _ V _ _ h.hp⟩
theorem Bk.cell (h : Bk w b t cs) (j : Nat) {x : Value} (hj : cs[j]? = some x) : w.cell? ⟨b, j, none⟩ = some x := by
  simp only [World.cell?, h.hp]; simpa using hj
theorem Bk.fro (h : Bk w b t cs) (j : Nat) : w.frozen? ⟨b, j, none⟩ = false := by simp [World.frozen?, h.hp]
theorem Bk.range (h : Bk w b t cs) (o : Nat) (M : List Value) (hM : ∀ j v, M[j]? = some v → cs[o + j]? = some v) : w.rangeAt b o M := fun j v hv => h.cell (o + j) (hM j v hv)
end

/-- Cells written over from a place on. -/
def putAt (cur : Array Value) : Nat → List Value → Array Value
  | _, [] => cur
  | k, v :: vs => putAt (cur.setIfInBounds k v) (k + 1) vs
theorem run_store_part (g off : Nat) (t : TypeId) : ∀ (vs : List Value) (i : Nat) (cur : Array Value) (w : World), w.heap[g]? = some (.cells cur t (0, 0)) → off + i + vs.length ≤ cur.size → (∀ v ∈ vs, v.oneCell' = true) →
    (storeCells ⟨g, off, none⟩ vs i).run Try.prog w = .ok () (w.setRow g (putAt cur (off + i) vs))
  | [], i, cur, w, hg, hl, _ => by
    have hlt : g < w.heap.size := (Array.getElem?_eq_some_iff.1 hg).1
    have hv : w.heap[g] = .cells cur t (0, 0) := (Array.getElem?_eq_some_iff.1 hg).2
    simp only [storeCells, putAt]
    show Result.ok () w = _
    congr 1
    unfold World.setRow
    cases w with
    | mk heap tape drawn os output =>
      congr 1
      apply Array.ext
      · simp
      · intro k h1 h2
        simp only [Array.getElem_modify]
        split
        · rename_i hk; subst hk; simp at hv; simp [hv]
        · rfl
  | v :: rest, i, cur, w, hg, hl, h1 => by
    have hi : off + i < cur.size := by simp at hl; omega
    have hadd : (⟨g, off, none⟩ : Addr).add i = ⟨g, off + i, none⟩ := by unfold Addr.add; split <;> simp_all
    have hcell : w.cell? ⟨g, off + i, none⟩ = some cur[off + i] := by simp [World.cell?, hg, hi]
    have hfro : w.frozen? ⟨g, off + i, none⟩ = false := by simp [World.frozen?, hg]
    have hst : (store ((⟨g, off, none⟩ : Addr).add i) v).run Try.prog w = .ok () (w.setRow g (cur.setIfInBounds (off + i) v)) := by
      rw [hadd, run_store Try.prog w _ v _ (h1 v (by simp)), hcell]
      simp [hfro, setCell_eq_setRow w g (off + i) cur t (0, 0) v hg]
    have ih := run_store_part g off t rest (i + 1) (cur.setIfInBounds (off + i) v) (w.setRow g (cur.setIfInBounds (off + i) v)) (setRow_heap w g cur _ t _ hg) (by simp at hl ⊢; omega) (fun x hx => h1 x (by simp [hx]))
    simp only [storeCells, Sem.run_bind, hst, Result.andThen_ok, ih, setRow_setRow]
    rfl
theorem putAt_mid : ∀ (M M' A B : List Value), M.length = M'.length → putAt (A ++ (M ++ B)).toArray A.length M' = (A ++ (M' ++ B)).toArray
  | [], [], A, B, _ => rfl
  | m :: M, m' :: M', A, B, h => by
    show putAt ((A ++ (m :: M ++ B)).toArray.setIfInBounds A.length m') (A.length + 1) M' = _
    have e : (A ++ (m :: M ++ B)).toArray.setIfInBounds A.length m' = ((A ++ [m']) ++ (M ++ B)).toArray := by
      simp [List.setIfInBounds_toArray]
    have ih := putAt_mid M M' (A ++ [m']) B (by simpa using h)
    rw [e, show A.length + 1 = (A ++ [m']).length by simp, ih]
    simp
  | [], _ :: _, _, _, h => by simp at h
  | _ :: _, [], _, _, h => by simp at h

/-- A store into a part of what lies in a block. -/
theorem wp_part {o : Oper} {a : Act} {w : World} {K : Act → World → Prop} {Q : Exit → Act → World → Prop} {ty : TypeId} {x y : Operand} {g off : Nat} {val : Value} {t : TypeId} {old new : Array Value} (ho : o.op = .store ty x y)
    (hx : a.eval x = .pointer (some ⟨g, off, none⟩)) (hy : a.eval y = val)
    (hg : Bk w g t old) (hi : (Try.prog.info? ty).map (·.size) = some val.cells.toList.length)
    (hle : off + val.cells.toList.length ≤ old.size) (h1 : ∀ u ∈ val.cells.toList, u.oneCell' = true) (hn : putAt old off val.cells.toList = new)
    (h : K (a.put o.dst undef) (w.setRow g new)) : o.wp Try.prog a w K Q := by
  have hs := run_store_part g off t val.cells.toList 0 old w hg.hp (by omega) h1
  rw [Nat.add_zero, hn] at hs
  have hv : (storeVar ty ⟨g, off, none⟩ val).run Try.prog w = .ok () (w.setRow g new) := by
    cases hq : Try.prog.info? ty with
    | none => simp [hq] at hi
    | some i =>
      have hz : val.cells.size = i.size := by simp [hq] at hi; omega
      simp [storeVar, sizeOf, typeInfo, hq, hz, hs]
  unfold Oper.wp execOp
  simp only [ho, hx, hy, Instr.storeAt, Instr.sureAddr, Sem.run_bind, Sem.run_pure, Result.andThen_ok, hv]
  exact h
theorem wpList_part {ops : Array Oper} {rest : List Oper} {o : Oper} {a : Act} {w : World} {Q : Exit → Act → World → Prop} {ty : TypeId} {x y : Operand} {g off : Nat} {val : Value} {t : TypeId} {old new : Array Value} (hgd : o.guard = none) (ho : o.op = .store ty x y)
    (hx : a.eval x = .pointer (some ⟨g, off, none⟩)) (hy : a.eval y = val)
    (hg : Bk w g t old) (hi : (Try.prog.info? ty).map (·.size) = some val.cells.toList.length)
    (hle : off + val.cells.toList.length ≤ old.size) (h1 : ∀ u ∈ val.cells.toList, u.oneCell' = true) (hn : putAt old off val.cells.toList = new)
    (h : wpList Try.prog ops Q rest (a.put o.dst undef) (w.setRow g new)) : wpList Try.prog ops Q (o :: rest) a w :=
  wpList_plain hgd fun _ hK => wp_part ho hx hy hg hi hle h1 hn (hK _ _ h)
theorem wp_if {c : Prop} [Decidable c] {p q : Prop} (hc : c) (h : p) : if c then p else q := by rw [if_pos hc]; exact h
theorem exec_loadV {w : World} {a : Act} {o : Oper} {t : TypeId} {x : Operand} {p : Addr} {v : Value} (ho : o.op = .load t x) (hx : a.eval x = .pointer (some p)) (hl : (loadVar t p).run Try.prog w = .ok v w) : (execOp a.eval o).run Try.prog w = .ok (.value v) w := by
  unfold execOp
  simp only [ho, hx, Instr.loadAt, Instr.sureAddr, Sem.run_bind, Sem.run_pure, Result.andThen_ok, hl]
theorem exec_ix {w : World} {a : Act} {o : Oper} {t : TypeId} {x y : Operand} {vx vy v : Value} (ho : o.op = .indexAddr t x y) (hx : a.eval x = vx) (hy : a.eval y = vy) (hl : (Instr.indexAt t vx vy).run Try.prog w = .ok v w) : (execOp a.eval o).run Try.prog w = .ok (.value v) w := by
  unfold execOp
  simp only [ho, hx, hy, Sem.run_bind, Sem.run_pure, Result.andThen_ok, hl]
theorem load_i64 {w : World} {p : Addr} {y : Int} (hc : w.cell? p = some (.int .i64 y)) : (loadVar 3 p).run Try.prog w = .ok (.int .i64 y) w := by
  simp [loadVar, isAgg, run_underlying Try.underlying3, go_sem, hc]
theorem load_bool {w : World} {p : Addr} {y : Bool} (hc : w.cell? p = some (.bool y)) : (loadVar 4 p).run Try.prog w = .ok (.bool y) w := by
  simp [loadVar, isAgg, run_underlying Try.underlying4, go_sem, hc]
theorem sizeInt : (Try.prog.info? 3).map (·.size) = some 1 := by kernel_rfl
theorem sizeBool : (Try.prog.info? 4).map (·.size) = some 1 := by kernel_rfl
end Go.Proofs.Ytbhdledlahbokaa

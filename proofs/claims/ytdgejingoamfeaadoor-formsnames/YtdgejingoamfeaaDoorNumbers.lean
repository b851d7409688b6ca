/- The contract of registersByName: a map of all registers' names. -/
import Derived.Test.YtdgejingoamfeaaDoorMapInv
import Derived.Test.YtdgejingoamfeaaDoorWhole
import Derived.Deep.QuietTactic
import Derived.BigQuiet
namespace Go.Proofs.YtdgejingoamfeaaDoor
open Go.ChangeShapes Go.WideShapes Go.ChangeAt Go.RowKit Go.Maps
set_option linter.unusedVariables false
set_option linter.unusedSimpArgs false

def regA : Array Value := (regL.map Value.string).toArray
theorem regA_load (w : World) (hw : Gl w) : (loadVar 70 ⟨0, 0, none⟩).run Tryd.prog w = .ok (.agg regA) w := by
  have hl : (loadCellsFrom ⟨0, 0, none⟩ 0 48 #[]).run Tryd.prog w = .ok regA w := by
    refine load_list w 0 0 (regL.map Value.string) fun j v hv => ?_
    rw [List.getElem?_map] at hv
    cases hr : regL[j]? with
    | none => rw [hr] at hv; cases hv
    | some s =>
      rw [hr] at hv
      obtain rfl := Option.some.inj hv
      have hj : j < 48 := by
        have := (List.getElem?_eq_some_iff.1 hr).1
        simpa [regL] using this
      have := hw.regs j hj
      rw [List.getD, hr] at this
      simpa using this
  have hi : (Tryd.prog.info? 70).map (·.size) = some 48 := by kernel_rfl
  cases hq : Tryd.prog.info? 70 with
  | none => simp [hq] at hi
  | some i =>
    have hs : i.size = 48 := by simpa [hq] using hi
    simp [loadVar, isAgg, run_underlying Tryd.underlying70, sizeOf, typeInfo, hq, hs, loadCells, hl]

theorem regA_row (k : Nat) (h : k < 16) (w : World) : (Instr.index 70 (.agg regA) (.int .i64 k)).run Tryd.prog w = .ok (.agg #[.string (regL.getD (3 * k) ⟨#[]⟩), .string (regL.getD (3 * k + 1) ⟨#[]⟩), .string (regL.getD (3 * k + 2) ⟨#[]⟩)]) w := by
  have : k = 0 ∨ k = 1 ∨ k = 2 ∨ k = 3 ∨ k = 4 ∨ k = 5 ∨ k = 6 ∨ k = 7 ∨ k = 8 ∨ k = 9 ∨ k = 10 ∨ k = 11 ∨ k = 12 ∨ k = 13 ∨ k = 14 ∨ k = 15 := by omega
  clear h
  rcases this with rfl | rfl | rfl | rfl | rfl | rfl | rfl | rfl | rfl | rfl | rfl | rfl | rfl | rfl | rfl | rfl
  all_goals (show Sem.run _ _ _ = _; kernel_rfl)
theorem nm0 (a b c : ByteArray) (w : World) : (Instr.index 69 (.agg #[.string a, .string b, .string c]) (.int .i64 0)).run Tryd.prog w = .ok (.string a) w := by kernel_rfl
theorem nm1 (a b c : ByteArray) (w : World) : (Instr.index 69 (.agg #[.string a, .string b, .string c]) (.int .i64 1)).run Tryd.prog w = .ok (.string b) w := by kernel_rfl
theorem nm2 (a b c : ByteArray) (w : World) : (Instr.index 69 (.agg #[.string a, .string b, .string c]) (.int .i64 2)).run Tryd.prog w = .ok (.string c) w := by kernel_rfl
theorem make48 (w : World) : (Instr.makeMap 64 (some (.int .i64 48))).run Tryd.prog w = .ok (.map (some w.heap.size)) (w.alloc (.map #[] 0)) := by kernel_rfl

/-- The widths, in their order. -/
def widV (a : Nat) : Int := if a = 0 then 8 else if a = 1 then 4 else 1
def regE (i : Nat) : Value := .agg #[.int .i64 ((i / 3 : Nat) : Int), .int .i64 (widV (i % 3))]
/-- What was stored of the first j registers' names. -/
def stR (j : Nat) (t : ByteArray) (v : Value) : Prop := ∃ i, i < j ∧ t = regL.getD i ⟨#[]⟩ ∧ v = regE i
theorem stR_succ (j : Nat) (t : ByteArray) (v : Value) : stR (j + 1) t v ↔ stR j t v ∨ (t = regL.getD j ⟨#[]⟩ ∧ v = regE j) := by
  constructor
  · rintro ⟨i, hi, h1, h2⟩
    by_cases e : i = j
    · subst e; exact .inr ⟨h1, h2⟩
    · exact .inl ⟨i, by omega, h1, h2⟩
  · rintro (⟨i, hi, h1, h2⟩ | ⟨h1, h2⟩)
    · exact ⟨i, by omega, h1, h2⟩
    · exact ⟨j, by omega, h1, h2⟩
theorem three_more (k : Nat) (D : DataW Value) (h : Inv D (stR (3 * k))) : Inv (((D.put (kl (regL.getD (3 * k) ⟨#[]⟩)) (.held (.agg #[.int .i64 k, .int .i64 8]))).put (kl (regL.getD (3 * k + 1) ⟨#[]⟩)) (.held (.agg #[.int .i64 k, .int .i64 4]))).put (kl (regL.getD (3 * k + 2) ⟨#[]⟩)) (.held (.agg #[.int .i64 k, .int .i64 1]))) (stR (3 * (k + 1))) := by
  have e0 : regE (3 * k) = .agg #[.int .i64 k, .int .i64 8] := by
    unfold regE; rw [show 3 * k / 3 = k by omega, show 3 * k % 3 = 0 by omega]; rfl
  have e1 : regE (3 * k + 1) = .agg #[.int .i64 k, .int .i64 4] := by
    unfold regE; rw [show (3 * k + 1) / 3 = k by omega, show (3 * k + 1) % 3 = 1 by omega]; rfl
  have e2 : regE (3 * k + 2) = .agg #[.int .i64 k, .int .i64 1] := by
    unfold regE; rw [show (3 * k + 2) / 3 = k by omega, show (3 * k + 2) % 3 = 2 by omega]; rfl
  have h0 := h.put (E' := stR (3 * k + 1)) (regL.getD (3 * k) ⟨#[]⟩) (regE (3 * k)) (stR_succ (3 * k))
  have h1 := h0.put (E' := stR (3 * k + 1 + 1)) (regL.getD (3 * k + 1) ⟨#[]⟩) (regE (3 * k + 1)) (stR_succ (3 * k + 1))
  have h2 := h1.put (E' := stR (3 * k + 2 + 1)) (regL.getD (3 * k + 2) ⟨#[]⟩) (regE (3 * k + 2)) (stR_succ (3 * k + 2))
  rw [e0, e1, e2] at h2
  exact h2

theorem regL_len : ∀ j, (regL.getD j ⟨#[]⟩).size ≤ 4 := by
  intro j
  by_cases h : j < 48
  · have : ∀ k : Fin 48, (regL.getD k.val ⟨#[]⟩).size ≤ 4 := by decide +kernel
    exact this ⟨j, h⟩
  · have : regL.length ≤ j := by simp [regL]; omega
    simp [List.getD, List.getElem?_eq_none this]
    decide

set_option maxHeartbeats 2000000 in
set_option maxRecDepth 4000 in
theorem byName_any (w : World) (hw : Gl w) :
    Calls Tryd.prog 39 #[] w fun e w' => e = .returned (.map (some w.heap.size)) ∧ (∃ D, w'.ownsMap Tryd.prog 9 RV w.heap.size 48 D ∧ Inv D (stR 48)) ∧ Below w.heap.size w w' := by
  have hmm := make48
  have LA : Hid (∀ v, Gl v → (loadVar 70 ⟨0, 0, none⟩).run Tryd.prog v = .ok (.agg regA) v) := ⟨regA_load⟩
  have IX : Hid (∀ k : Nat, k < 16 → ∀ v, (Instr.index 70 (.agg regA) (.int .i64 k)).run Tryd.prog v = .ok (.agg #[.string (regL.getD (3 * k) ⟨#[]⟩), .string (regL.getD (3 * k + 1) ⟨#[]⟩), .string (regL.getD (3 * k + 2) ⟨#[]⟩)]) v) := ⟨regA_row⟩
  generalize regA = A at *
  have HW : Hid (Gl w) := ⟨hw⟩
  clear hw
  go_enter Tryd.func39, Tryd.ntmps39
  go_wp2_with (refine wpList_load_of (t := 70) rfl (by kernel_rfl) (by kernel_rfl) (LA.out _ (HW.out.alloc _)) ?_)
  go_loopw [8] (fun i wr => ∃ (k : Nat) (D : DataW Value), k ≤ 16 ∧ i = .int .i64 k ∧ wr.ownsMap Tryd.prog 9 RV w.heap.size (3 * k) D ∧ Hid (Inv D (stR (3 * k))) ∧ Below w.heap.size w wr) (fun i _ => 16 - (intOf i).toNat)
  case atStart => exact ⟨0, _, by omega, rfl, World.ownsMap_made _ _ _ _, ⟨Inv.none (fun t v ⟨i, hi, _⟩ => by omega)⟩, (Below.refl _ _).alloc (Nat.le_refl _) _⟩
  case round =>
    obtain ⟨k, D, hk, rfl, hown, HI, hnx⟩ := hrel
    by_cases hlt : k < 16
    · have ix := IX.out k hlt
      have z0 := regL_len (3 * k)
      have z1 := regL_len (3 * k + 1)
      have z2 := regL_len (3 * k + 2)
      have HJ : Hid (Inv (((D.put (kl (regL.getD (3 * k) ⟨#[]⟩)) (.held (.agg #[.int .i64 k, .int .i64 8]))).put (kl (regL.getD (3 * k + 1) ⟨#[]⟩)) (.held (.agg #[.int .i64 k, .int .i64 4]))).put (kl (regL.getD (3 * k + 2) ⟨#[]⟩)) (.held (.agg #[.int .i64 k, .int .i64 1]))) (stR (3 * (k + 1)))) := ⟨three_more k D HI.out⟩
      generalize regL.getD (3 * k) ⟨#[]⟩ = n0 at *
      generalize regL.getD (3 * k + 1) ⟨#[]⟩ = n1 at *
      generalize regL.getD (3 * k + 2) ⟨#[]⟩ = n2 at *
      have hk3 : (k : Int) < 16 := by omega
      have x0 := nm0 n0 n1 n2
      have x1 := nm1 n0 n1 n2
      have x2 := nm2 n0 n1 n2
      have hownV : (wr.alloc (.cells #[.string n0, .string n1, .string n2] 69)).ownsMap Tryd.prog 9 RV w.heap.size (3 * k) D := hown.kept (World.grownBy_alloc _ _ none) (by simp)
      have hnxV : Below w.heap.size w (wr.alloc (.cells #[.string n0, .string n1, .string n2] 69)) := bel_alloc hnx _
      obtain ⟨gz, _, c0, c1, c2, c3, c4, c5, _, _, _⟩ := HW.out.bel hnxV
      go_wp2
      refine wp_loop_rounds 4 ?_
      rw [rounds_succ]
      go_wp2_with (first
        | (at_mapUpdate; refine wpList_mapUpdate_own _ rfl _ _ _ 64 rfl 9 62 law9 Tryd.underlying64 _ w.heap.size (3 * k) _ rfl hownV (by unfold maxLen; omega) _ _ _ rfl rfl (key9 (by omega)) _ [] rfl ?_; intro w1 hown1 hg1; have hn1 : Below w.heap.size w w1 := hnxV.grown hg1 hnxV.size (fun j hj => by cases hj; exact Nat.le_refl _); clear gz c0 c1 c2 c3 c4 c5; obtain ⟨gz, _, c0, c1, c2, c3, c4, c5, _, _, _⟩ := HW.out.bel hn1)
        | go_in)
      rw [rounds_succ]
      go_wp2_with (first
        | (at_mapUpdate; refine wpList_mapUpdate_own _ rfl _ _ _ 64 rfl 9 62 law9 Tryd.underlying64 _ w.heap.size (3 * k + 1) _ rfl hown1 (by unfold maxLen; omega) _ _ _ rfl rfl (key9 (by omega)) _ [] rfl ?_; intro w2 hown2 hg2; have hn2 : Below w.heap.size w w2 := hn1.grown hg2 hn1.size (fun j hj => by cases hj; exact Nat.le_refl _); clear gz c0 c1 c2 c3 c4 c5; obtain ⟨gz, _, c0, c1, c2, c3, c4, c5, _, _, _⟩ := HW.out.bel hn2)
        | go_in)
      rw [rounds_succ]
      go_wp2_with (first
        | (at_mapUpdate; refine wpList_mapUpdate_own _ rfl _ _ _ 64 rfl 9 62 law9 Tryd.underlying64 _ w.heap.size (3 * k + 2) _ rfl hown2 (by unfold maxLen; omega) _ _ _ rfl rfl (key9 (by omega)) _ [] rfl ?_; intro w3 hown3 hg3; have hn3 : Below w.heap.size w w3 := hn2.grown hg3 hn2.size (fun j hj => by cases hj; exact Nat.le_refl _))
        | go_in)
      rw [rounds_succ]
      go_wp2
      go_roundw
      case rel => exact ⟨k + 1, _, by omega, by go_num, hown3, HJ, hn3⟩
      case measure => simp [intOf]; omega
    · obtain rfl : k = 16 := by omega
      go_wp2
      go_ret
      exact ⟨rfl, ⟨D, hown, HI.out⟩, hnx⟩

/-- What Number answers. -/
def numV (t : ByteArray) : Int × Int × Bool :=
  match regL.findIdx? (fun x => decide (x = t)) with
  | some i => (((i / 3 : Nat) : Int), widV (i % 3), true)
  | none => (0, 0, false)

theorem regL_nodup : regL.Nodup := by decide +kernel
theorem regL_at {i : Nat} (h : i < 48) : regL.findIdx? (fun x => decide (x = regL.getD i ⟨#[]⟩)) = some i := by
  have : ∀ k : Fin 48, regL.findIdx? (fun x => decide (x = regL.getD k.val ⟨#[]⟩)) = some k.val := by decide +kernel
  exact this ⟨i, h⟩
theorem zero62 (w : World) : (zeroValue 62).run Tryd.prog w = .ok (.agg #[.int .i64 0, .int .i64 0]) w := by kernel_rfl

set_option maxHeartbeats 1000000 in
theorem number_any (t : ByteArray) (w : World) (hw : Gl w) (ht : t.size ≤ maxLen) :
    Calls Tryd.prog 17 #[.string t] w fun e w' => e = .returned (.tuple #[.int .i64 (numV t).1, .int .i64 (numV t).2.1, .bool (numV t).2.2]) ∧ Below w.heap.size w w' := by
  have HC : Hid (∀ v, Gl v → Calls Tryd.prog 39 #[] v fun e w' => e = .returned (.map (some v.heap.size)) ∧ (∃ D, w'.ownsMap Tryd.prog 9 RV v.heap.size 48 D ∧ Inv D (stR 48)) ∧ Below v.heap.size v w') := ⟨byName_any⟩
  have HA : Hid (∀ D, Inv D (stR 48) → has D (kl t) = (numV t).2.2 ∧ D.atKey (kl t) (.held (.agg #[.int .i64 0, .int .i64 0])) = .held (.agg #[.int .i64 (numV t).1, .int .i64 (numV t).2.1])) := ⟨fun D h => by
    cases hh : has D (kl t)
    · have hn : regL.findIdx? (fun x => decide (x = t)) = none := by
        cases hf : regL.findIdx? (fun x => decide (x = t)) with
        | none => rfl
        | some i =>
          obtain ⟨hi, hx, _⟩ := List.findIdx?_eq_some_iff_getElem.1 hf
          have hi48 : i < 48 := by simpa [regL] using hi
          have h1 := h.cmp t (regE i) ⟨i, hi48, by rw [List.getD, List.getElem?_eq_getElem hi]; simpa using (of_decide_eq_true hx).symm, rfl⟩
          rw [hh] at h1; cases h1
      rw [atKey_of_not_has hh]
      unfold numV; rw [hn]; exact ⟨rfl, rfl⟩
    · obtain ⟨v, ⟨i, hi, rfl, rfl⟩, hv⟩ := h.snd t (.held (.agg #[.int .i64 0, .int .i64 0])) hh
      unfold numV; rw [regL_at hi, hv]; exact ⟨rfl, rfl⟩⟩
  have HZ := zero62
  rcases hN : numV t with ⟨a, b, q⟩
  rw [hN] at HA
  dsimp only at HA ⊢
  clear hN
  have HW : Hid (Gl w) := ⟨hw⟩
  clear hw
  go_enter Tryd.func17, Tryd.ntmps17
  go_wp2_with (first
    | (go_at_call 39; refine (HC.out _ HW.out).mono ?_; rintro e w1 ⟨rfl, ⟨D, hown, hinv⟩, hb⟩; obtain ⟨hq, hu⟩ := HA.out D hinv)
    | (at_lookup; refine wpList_look_held rfl _ _ 64 rfl 62 Tryd.underlying64 (HZ _) w.heap.size 48 D rfl hown t rfl ht q (.agg #[.int .i64 a, .int .i64 b]) hq hu ?_))
  go_quiet (fail)
  go_wp2
  go_ret3
  exact ⟨rfl, below_drewN (bel_alloc hb _) _⟩
end Go.Proofs.YtdgejingoamfeaaDoor

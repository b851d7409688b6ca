/- The reader: isSign, isTwo. -/
import Derived.Test.YtljmbgflcidokaaGreatDoorXRd
import Derived.Deep.RegionHeld3
namespace Go.Proofs.YtljmbgflcidokaaGreatDoor
open Go.ChangeShapes Go.WideShapes Go.ChangeAt Go.RowKit Go.Maps
set_option linter.unusedVariables false
set_option linter.unusedSimpArgs false

theorem look_no {u : World} {mb : Nat} (h : OpM u mb) {s : List UInt8} (hz : s.length ≤ 140737488355328) (hs : opOf s = none) : (Instr.lookup 66 (.map (some mb)) (.string (St s)) true).run Tryz.prog u = .ok (.tuple #[.agg #[.int .i64 0, .nilFunc], .bool false]) u := by
  obtain ⟨D, h1, h2⟩ := h.own
  obtain ⟨v, ps, hrun, hv⟩ := h1.look_ok law9 und66 (zero82 u) (zd := .held (.agg #[.int .i64 0, .nilFunc])) (zp := []) rfl (WideMaps.keyOf_string_mk Tryz.underlying9 (s := St s) (by rw [St_size]; unfold maxLen; omega))
  have hh := look_none h2 hs
  rw [show Lit.string (St s).data.toList = kl (St s) from rfl] at hrun hv
  have e : v = .agg #[.int .i64 0, .nilFunc] := held_inj hv (by rw [atKey_of_not_has hh])
  rw [hrun, hh, e]
theorem look_yes {u : World} {mb : Nat} (h : OpM u mb) {s : List UInt8} (hz : s.length ≤ 140737488355328) {i : Nat} (hi : i < 9) (hs : s = sgn i) : (Instr.lookup 66 (.map (some mb)) (.string (St s)) true).run Tryz.prog u = .ok (.tuple #[opV mb i, .bool true]) u := by
  obtain ⟨D, h1, h2⟩ := h.own
  obtain ⟨v, ps, hrun, hv⟩ := h1.look_ok law9 und66 (zero82 u) (zd := .held (.agg #[.int .i64 0, .nilFunc])) (zp := []) rfl (WideMaps.keyOf_string_mk Tryz.underlying9 (s := St s) (by rw [St_size]; unfold maxLen; omega))
  obtain ⟨hh, ha⟩ := look_some h2 hi hs (.held (.agg #[.int .i64 0, .nilFunc]))
  rw [show Lit.string (St s).data.toList = kl (St s) from rfl] at hrun hv
  have e : v = opV mb i := held_inj hv ha
  rw [hrun, hh, e]
theorem look_one {u : World} {mb : Nat} (h : OpM u mb) {s : List UInt8} (hz : s.length ≤ 140737488355328) {i : Nat} (hi : i < 9) (hs : s = sgn i) : (Instr.lookup 66 (.map (some mb)) (.string (St s)) false).run Tryz.prog u = .ok (opV mb i) u := by
  obtain ⟨D, h1, h2⟩ := h.own
  obtain ⟨v, ps, hrun, hv⟩ := h1.lookup law9 und66 (zero82 u) (zd := .held (.agg #[.int .i64 0, .nilFunc])) (zp := []) rfl (WideMaps.keyOf_string_mk Tryz.underlying9 (s := St s) (by rw [St_size]; unfold maxLen; omega))
  obtain ⟨hh, ha⟩ := look_some h2 hi hs (.held (.agg #[.int .i64 0, .nilFunc]))
  rw [show Lit.string (St s).data.toList = kl (St s) from rfl] at hv
  have e : v = opV mb i := held_inj hv ha
  rw [hrun, e]

section
variable {g : Gx} {w w' : World} {a dep ask : Nat} {pv : Value}
theorem xsign_any (h : RX g w a dep ask pv) (s : List UInt8) (str : ByteArray) (hstr : str = St s) : Calls Tryz.prog 60 #[.pointer (some ⟨g.rb, 0, none⟩), .string str] w fun e w' => e = .returned (.bool (isSg g.L a s)) ∧ Below w.heap.size w w' := by
  have HP : Hid _ := ⟨xpeek_any h⟩
  have e : isSg g.L a s = ((g.L.getD a TL.none).1.k == 4 && ((St (g.L.getD a TL.none).1.t).toList == str.toList)) := by
    unfold isSg tk
    subst hstr
    rw [ByteArray.toList_eq, ByteArray.toList_eq]
    rfl
  rw [e]
  generalize g.L.getD a TL.none = p at *
  clear e hstr h
  obtain ⟨b1, h1⟩ : ∃ b, (p.1.k == 4) = b := ⟨_, rfl⟩
  obtain ⟨b2, h2⟩ : ∃ b, ((St p.1.t).toList == str.toList) = b := ⟨_, rfl⟩
  rw [h1, h2]
  cases b1
  · go_enter Tryz.func60, Tryz.ntmps60
    go_wp2_with (go_at_call 83; (with_reducible refine HP.out.mono ?_); rintro e w1 ⟨rfl, hb1⟩)
    go_ret
    exact ⟨rfl, bel_alloc hb1 _⟩
  · go_enter Tryz.func60, Tryz.ntmps60
    go_wp2_with (go_at_call 83; (with_reducible refine HP.out.mono ?_); rintro e w1 ⟨rfl, hb1⟩)
    go_ret
    exact ⟨rfl, bel_alloc hb1 _⟩

theorem ot_at (h : RX g w a dep ask pv) : (g.L.getD a TL.none).1.t.length ≤ 140737488355328 := by
  by_cases hlt : a < g.L.length
  · rw [getD_at _ _ hlt]
    exact h.ot _ (List.getElem_mem _)
  · simp [List.getD, List.getElem?_eq_none (Nat.le_of_not_lt hlt), TL.none]

/-- What the region that looks up stands on. -/
theorem keepL {v u : World} {rb tb : Nat} {x y : Value} {i : Sem Value} {r : Value} (hb : Below v.heap.size v u) (hl : Sem.run Tryz.prog i u = .ok r u) (h : v.cell? ⟨rb, 6, none⟩ = some x ∧ v.cell? ⟨tb, 3, none⟩ = some y) : u.cell? ⟨rb, 6, none⟩ = some x ∧ u.cell? ⟨tb, 3, none⟩ = some y ∧ Sem.run Tryz.prog i u = .ok r u :=
  ⟨to_bel hb h.1, to_bel hb h.2, hl⟩

theorem store_fnD (lv : Int) (fv : Value) (v : World) (hf : fv.oneCell' = true) : Sem.run Tryz.prog (store ⟨v.heap.size, 1, none⟩ fv) (v.alloc (.cells #[.int .i64 lv, .nilFunc] 82)).drew = .ok () (v.alloc (.cells #[.int .i64 lv, fv] 82)).drew :=
  store_fn lv fv v.drew v.heap.size rfl hf
set_option maxHeartbeats 1000000 in
theorem xtwo_none (h : RX g w a dep ask pv) (n : Nat) (hop : opOf (tk g.L a).t = none) : Calls Tryz.prog 64 #[.pointer (some ⟨g.rb, 0, none⟩), .int .i64 n] w fun e w' => e = .returned (.bool (isLv g.L a n)) ∧ Below w.heap.size w w' := by
  have HP : Hid _ := ⟨xpeek_any h⟩
  have ht := ot_at h
  have e : isLv g.L a n = false := by unfold isLv lvOf; rw [hop]; simp
  rw [e]
  unfold tk at hop
  have HW : Hid _ := ⟨h⟩
  generalize g.L.getD a TL.none = p at *
  have HL : Hid _ := ⟨fun (u : World) (hu : OpM u g.mb) => look_no hu ht hop⟩
  clear e h
  go_enter Tryz.func64, Tryz.ntmps64
  go_wp2_with (go_at_call 83; (with_reducible refine HP.out.mono ?_); rintro e w1 ⟨rfl, hb1⟩)
  have B2 : Below w.heap.size w (w1.alloc (.cells #[.int .i64 p.1.k, .int .i64 p.2, .int .i64 p.1.n, .string (St p.1.t)] 37)) := bel_alloc hb1 _
  have T2 := TB.new w1 p w1.heap.size rfl
  generalize w1.heap.size = tb at *
  generalize w1.alloc (.cells #[.int .i64 p.1.k, .int .i64 p.2, .int .i64 p.1.n, .string (St p.1.t)] 37) = v at *
  have X2 := HW.out.bel B2
  have c6 := X2.drew.c6
  have t3 : v.drew.cell? ⟨tb, 3, none⟩ = some (.string (St p.1.t)) := T2.c3
  have l3 := HL.out v.drew X2.drew.op
  have HST := store_fnD 0 .nilFunc v rfl
  go_region_held3 (fun u => u.cell? ⟨g.rb, 6, none⟩ = some (.map (some g.mb)) ∧ u.cell? ⟨tb, 3, none⟩ = some (.string (St p.1.t)) ∧ Sem.run Tryz.prog (Instr.lookup 66 (.map (some g.mb)) (.string (St p.1.t)) true) u = .ok (.tuple #[.agg #[.int .i64 0, .nilFunc], .bool false]) u)
    (first | (with_reducible assumption) | exact ⟨c6, t3, l3⟩ | exact keepL (bel_alloc (Below.refl _ _) _) (HL.out _ (X2.drew.alloc _).op) ⟨c6, t3⟩)
    (fail)
  all_goals
    go_wp2
    go_ret
    exact ⟨rfl, (bel_alloc B2 _).drew⟩

set_option maxHeartbeats 1000000 in
theorem xtwo_some (h : RX g w a dep ask pv) (n : Nat) (i : Nat) (hi : i < 9) (hs : (tk g.L a).t = sgn i) (hl : isLv g.L a n = ((tk g.L a).k == 4 && (((opsL.getD i ([], 0, addV)).2.1 : Int) == (n : Int)))) : Calls Tryz.prog 64 #[.pointer (some ⟨g.rb, 0, none⟩), .int .i64 n] w fun e w' => e = .returned (.bool (isLv g.L a n)) ∧ Below w.heap.size w w' := by
  have HP : Hid _ := ⟨xpeek_any h⟩
  have ht := ot_at h
  rw [hl]
  unfold tk at hs ⊢
  have HW : Hid _ := ⟨h⟩
  generalize g.L.getD a TL.none = p at *
  have HL : Hid _ := ⟨fun (u : World) (hu : OpM u g.mb) => look_yes hu ht hi hs⟩
  have hov : opV g.mb i = .agg #[.int .i64 ((opsL.getD i ([], 0, addV)).2.1 : Int), opF g.mb i] := rfl
  rw [hov] at HL
  have hof : (opF g.mb i).oneCell' = true := by
    unfold opF
    split
    · rfl
    · split <;> rfl
  generalize ((opsL.getD i ([], 0, addV)).2.1 : Int) = lv at *
  generalize opF g.mb i = fv at *
  clear hl h hov hs hi
  obtain ⟨b1, h1⟩ : ∃ b, (p.1.k == 4) = b := ⟨_, rfl⟩
  obtain ⟨b2, h2⟩ : ∃ b, (lv == (n : Int)) = b := ⟨_, rfl⟩
  rw [h1, h2]
  cases b1
  · go_enter Tryz.func64, Tryz.ntmps64
    go_wp2_with (go_at_call 83; (with_reducible refine HP.out.mono ?_); rintro e w1 ⟨rfl, hb1⟩)
    have B2 : Below w.heap.size w (w1.alloc (.cells #[.int .i64 p.1.k, .int .i64 p.2, .int .i64 p.1.n, .string (St p.1.t)] 37)) := bel_alloc hb1 _
    have T2 := TB.new w1 p w1.heap.size rfl
    generalize w1.heap.size = tb at *
    generalize w1.alloc (.cells #[.int .i64 p.1.k, .int .i64 p.2, .int .i64 p.1.n, .string (St p.1.t)] 37) = v at *
    have X2 := HW.out.bel B2
    have c6 := X2.drew.c6
    have t3 : v.drew.cell? ⟨tb, 3, none⟩ = some (.string (St p.1.t)) := T2.c3
    have l3 := HL.out v.drew X2.drew.op
    have HST := store_fnD lv fv v hof
    go_region_held3 (fun u => u.cell? ⟨g.rb, 6, none⟩ = some (.map (some g.mb)) ∧ u.cell? ⟨tb, 3, none⟩ = some (.string (St p.1.t)) ∧ Sem.run Tryz.prog (Instr.lookup 66 (.map (some g.mb)) (.string (St p.1.t)) true) u = .ok (.tuple #[.agg #[.int .i64 lv, fv], .bool true]) u)
      (first | (with_reducible assumption) | exact ⟨c6, t3, l3⟩ | exact keepL (bel_alloc (Below.refl _ _) _) (HL.out _ (X2.drew.alloc _).op) ⟨c6, t3⟩)
      (fail)
    all_goals
      have t0 : (v.alloc (.cells #[.int .i64 lv, fv] 82)).drew.cell? ⟨tb, 0, none⟩ = some (.int .i64 p.1.k) := up_drew (up_alloc T2.c0 _)
      have t0' : v.cell? ⟨tb, 0, none⟩ = some (.int .i64 p.1.k) := T2.c0
      have tlt := T2.lt
      go_wp2
      go_ret
      exact ⟨rfl, (bel_alloc B2 _).drew⟩
  · go_enter Tryz.func64, Tryz.ntmps64
    go_wp2_with (go_at_call 83; (with_reducible refine HP.out.mono ?_); rintro e w1 ⟨rfl, hb1⟩)
    have B2 : Below w.heap.size w (w1.alloc (.cells #[.int .i64 p.1.k, .int .i64 p.2, .int .i64 p.1.n, .string (St p.1.t)] 37)) := bel_alloc hb1 _
    have T2 := TB.new w1 p w1.heap.size rfl
    generalize w1.heap.size = tb at *
    generalize w1.alloc (.cells #[.int .i64 p.1.k, .int .i64 p.2, .int .i64 p.1.n, .string (St p.1.t)] 37) = v at *
    have X2 := HW.out.bel B2
    have c6 := X2.drew.c6
    have t3 : v.drew.cell? ⟨tb, 3, none⟩ = some (.string (St p.1.t)) := T2.c3
    have l3 := HL.out v.drew X2.drew.op
    have HST := store_fnD lv fv v hof
    go_region_held3 (fun u => u.cell? ⟨g.rb, 6, none⟩ = some (.map (some g.mb)) ∧ u.cell? ⟨tb, 3, none⟩ = some (.string (St p.1.t)) ∧ Sem.run Tryz.prog (Instr.lookup 66 (.map (some g.mb)) (.string (St p.1.t)) true) u = .ok (.tuple #[.agg #[.int .i64 lv, fv], .bool true]) u)
      (first | (with_reducible assumption) | exact ⟨c6, t3, l3⟩ | exact keepL (bel_alloc (Below.refl _ _) _) (HL.out _ (X2.drew.alloc _).op) ⟨c6, t3⟩)
      (fail)
    all_goals
      have t0 : (v.alloc (.cells #[.int .i64 lv, fv] 82)).drew.cell? ⟨tb, 0, none⟩ = some (.int .i64 p.1.k) := up_drew (up_alloc T2.c0 _)
      have t0' : v.cell? ⟨tb, 0, none⟩ = some (.int .i64 p.1.k) := T2.c0
      have tlt := T2.lt
      go_wp2
      go_ret
      exact ⟨rfl, (bel_alloc B2 _).drew⟩

theorem xtwo_any (h : RX g w a dep ask pv) (n : Nat) : Calls Tryz.prog 64 #[.pointer (some ⟨g.rb, 0, none⟩), .int .i64 n] w fun e w' => e = .returned (.bool (isLv g.L a n)) ∧ Below w.heap.size w w' := by
  cases hop : opOf (tk g.L a).t with
  | none => exact xtwo_none h n hop
  | some q =>
    obtain ⟨i, hi, hs, hq⟩ := opOf_some hop
    refine xtwo_some h n i hi hs ?_
    unfold isLv lvOf
    rw [hop, hq]
    congr 1
    show ((some (opsL.getD i ([], 0, addV)).2.1 : Option Nat) == some n) = _
    generalize (opsL.getD i ([], 0, addV)).2.1 = x
    by_cases e : x = n
    · subst e; simp
    · have h1 : (x == n) = false := by simpa using e
      have h2 : ((x : Int) == (n : Int)) = false := by
        have : ¬ (x : Int) = (n : Int) := by omega
        simpa using this
      rw [h2, ← h1]
      rfl
end
end Go.Proofs.YtljmbgflcidokaaGreatDoor

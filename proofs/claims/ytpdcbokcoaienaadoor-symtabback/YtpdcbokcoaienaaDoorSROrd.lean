/- The contracts of the document's own low and Ordered. -/
import Derived.Test.YtpdcbokcoaienaaDoorSEnt
namespace Go.Proofs.YtpdcbokcoaienaaDoor
open Go.ChangeShapes Go.WideShapes Go.ChangeAt Go.RowKit Go.Maps
set_option linter.unusedVariables false
set_option linter.unusedSimpArgs false

theorem le_succ (m : Nat) (n : Int) : le (m + 1) n = le m n ++ [n / 2 ^ (8 * m) % 256] := by
  unfold le
  rw [List.range_succ, List.map_append]
  rfl

/-- One byte more. -/
theorem append_byteS {ops : Array Oper} {rest : List Oper} {o : Oper} {a : Act} {Q : Exit → Act → World → Prop} (w : World) (hgd : o.guard = none) (s x : Operand)
    (ho : o.op = .call { callee := .builtin .append, args := #[s, x], argTypes := #[24, 24] })
    (base : Nat) (v : Value) (xs : List Int) (hs : a.eval s = v) (hown : Own w base v xs) (y : Int) (hx : a.eval x = .slice (some ⟨w.heap.size, 0, none⟩) 1 1)
    (hn : xs.length + 1 ≤ 140737488355328) (hbase : base ≤ w.heap.size)
    (h : ∀ v' w', Own w' base v' (xs ++ [y]) → Step w w' v v' → wpList Tryd.prog ops Q rest (a.put o.dst v') w') :
    wpList Tryd.prog ops Q (o :: rest) a (w.alloc (.cells #[.int .u8 y] 5)) := by
  refine append_g w hgd s x 24 5 _ 1 ho Tryd.underlying24 info5 rfl base v _ _ hs hown (.int .u8 y) rfl hx (by unfold maxLen; omega) (by omega) hbase ?_
  intro v' w' h1 h2
  refine h v' w' ?_ h2
  unfold Own
  simpa using h1

set_option maxHeartbeats 1000000 in
set_option maxRecDepth 10000 in
theorem low_any (vb : Value) (xs : List Int) (base : Nat) (n : Int) (m : Nat) (w : World) (hown : Own w base vb xs) (hbase : base ≤ w.heap.size) (hx : xs.length ≤ 1048576) (hm : m ≤ 8) :
    Calls Tryd.prog 24 #[vb, .int .i64 n, .int .i64 m] w fun e w' => ∃ v, e = .returned v ∧ Own w' base v (xs ++ le m n) ∧ Step w w' vb v := by
  have HO : Hid _ := ⟨hown⟩
  clear hown
  go_enter Tryd.func24, Tryd.ntmps24
  go_wp2
  go_loopw [7, 0] (fun i v wr => ∃ k : Nat, k ≤ m ∧ i = .int .i64 k ∧ Hid (Own wr base v (xs ++ le k n) ∧ Step w wr vb v)) (fun i _ _ => m - (intOf i).toNat)
  case atStart => exact ⟨0, by omega, rfl, ⟨by simpa [le] using HO.out, Step.refl _ _⟩⟩
  case round =>
    obtain ⟨k, hk, rfl, HW⟩ := hrel
    obtain ⟨ho, hst⟩ := HW.out
    by_cases hlt : k < m
    · have hl : (xs ++ le k n).length ≤ 1048584 := by rw [List.length_append, le_len]; omega
      have hb2 : base ≤ wr.heap.size := Nat.le_trans hbase hst.turn.size
      have h8 : (0 : Int) ≤ 8 * (k : Int) := by omega
      have h64 : 8 * (k : Int) < 64 := by omega
      have HOO : Hid _ := ⟨ho⟩
      have HSS : Hid _ := ⟨hst⟩
      clear ho hst HW
      go_wp2_with (at_builtin; refine append_byteS _ rfl _ _ rfl base _ _ rfl HOO.out _ rfl (by omega) hb2 ?_; intro v1 w1 hr1 hs1)
      go_roundw
      case rel =>
        refine ⟨k + 1, hlt, by go_num, ⟨?_, HSS.out.trans hs1⟩⟩
        rw [le_succ, ← List.append_assoc]
        have e8 : (8 * (k : Int)).toNat = 8 * k := by omega
        first | exact hr1 | simpa [e8] using hr1
      case measure => simp [intOf]; omega
    · obtain rfl : k = m := by omega
      have HOO : Hid _ := ⟨ho⟩
      have HSS : Hid _ := ⟨hst⟩
      clear ho hst HW
      go_wp2
      go_ret
      exact ⟨_, rfl, HOO.out, HSS.out⟩

set_option maxHeartbeats 2000000 in
set_option maxRecDepth 10000 in
theorem ordered_any (ao : Option Addr) (c : Nat) (l : List Sym) (w : World) (hl : l.length ≤ 2000) (hr : Syms w ao l) :
    Calls Tryd.prog 21 #[.slice ao l.length c] w fun e w' => ∃ v, e = .returned (.tuple #[v, .int .i64 (locs l).length]) ∧ OwnY w' w.heap.size v (ordL l) ∧ Below w.heap.size w w' := by
  have HR : Hid _ := ⟨hr⟩
  clear hr
  go_enter Tryd.func21, Tryd.ntmps21
  go_wp2
  go_loopw [5, 4] (fun i v wr => ∃ k : Nat, k ≤ l.length ∧ i = .int .i64 k ∧ Hid (OwnY wr w.heap.size v (locs (l.take k)) ∧ Below w.heap.size w wr)) (fun i _ _ => l.length - (intOf i).toNat)
  case atStart => exact ⟨0, by omega, rfl, ⟨OwnY.nil _ _, Below.refl _ _⟩⟩
  case round =>
    obtain ⟨k, hk, rfl, HW⟩ := hrel
    obtain ⟨o1, hbel⟩ := HW.out
    have hf1 : (locs (l.take k)).length ≤ k := Nat.le_trans (List.length_filter_le _ _) (by simp; omega)
    by_cases hlt : k < l.length
    · obtain ⟨b, off, rfl, hcell⟩ : ∃ b off, ao = some ⟨b, off, none⟩ ∧ ∀ i, i < l.length → SymAt wr b (off + i * 6) (l.getD i Sym.none) := by
        rcases HR.out.below hbel (Nat.le_refl _) with h | h
        · subst h; simp at hlt
        · exact h
      obtain ⟨c0, c1, c2, c3, c4, c5⟩ := hcell k hlt
      have hget : l.getD k Sym.none = l[k] := by simp [hlt]
      rw [hget] at c0 c1 c2 c3 c4 c5
      have T1 := locs_snoc (l.take k) l[k]
      rw [← List.take_succ_eq_append_getElem hlt] at T1
      generalize l[k] = s at *
      have hbs := hbel.size
      have HB2 : Hid _ := ⟨hbel⟩
      have HP1 : Hid _ := ⟨o1⟩
      clear o1 hbel hcell hget HW
      cases hb0 : (s.b == 0)
      · rw [hb0] at T1
        have HT1 : Hid _ := ⟨T1⟩
        clear T1
        go_wp2
        go_roundw
        case rel => exact ⟨k + 1, hlt, by go_num, ⟨by rw [HT1.out]; exact HP1.out, HB2.out⟩⟩
        case measure => simp [intOf]; omega
      · rw [hb0] at T1
        have HT1 : Hid _ := ⟨T1⟩
        clear T1
        go_wp2_with (at_builtin; refine append_sym _ rfl _ _ rfl w.heap.size _ _ rfl HP1.out s _ rfl rfl (by omega) hbs ?_; intro v1 w1 hr1 hs1)
        go_roundw
        case rel => exact ⟨k + 1, hlt, by go_num, ⟨by rw [HT1.out]; exact hr1, HB2.out.trans (hs1.below HP1.out HB2.out.size)⟩⟩
        case measure => simp [intOf]; omega
    · obtain rfl : k = l.length := by omega
      rw [List.take_of_length_le (Nat.le_refl _)] at o1 hf1
      obtain ⟨a1, c1, hv1, _, _, _, _⟩ := o1.any
      subst hv1
      have HP1 : Hid _ := ⟨o1⟩
      have HB2 : Hid _ := ⟨hbel⟩
      clear o1 hbel HW
      go_wp2
      go_loopw [7, 4] (fun i v wr => ∃ k : Nat, k ≤ l.length ∧ i = .int .i64 k ∧ Hid (OwnY wr w.heap.size v (locs l ++ oths (l.take k)) ∧ Below w.heap.size w wr)) (fun i _ _ => l.length - (intOf i).toNat)
      case atStart => exact ⟨0, by omega, rfl, ⟨by simpa [oths] using HP1.out, HB2.out⟩⟩
      case round =>
        obtain ⟨k, hk, rfl, HW⟩ := hrel
        obtain ⟨o1, hbel⟩ := HW.out
        have hf2 : (oths (l.take k)).length ≤ k := Nat.le_trans (List.length_filter_le _ _) (by simp; omega)
        by_cases hlt : k < l.length
        · obtain ⟨b, off, rfl, hcell⟩ : ∃ b off, ao = some ⟨b, off, none⟩ ∧ ∀ i, i < l.length → SymAt wr b (off + i * 6) (l.getD i Sym.none) := by
            rcases HR.out.below hbel (Nat.le_refl _) with h | h
            · subst h; simp at hlt
            · exact h
          obtain ⟨c0, c1, c2, c3, c4, c5⟩ := hcell k hlt
          have hget : l.getD k Sym.none = l[k] := by simp [hlt]
          rw [hget] at c0 c1 c2 c3 c4 c5
          have T1 := oths_snoc (l.take k) l[k]
          rw [← List.take_succ_eq_append_getElem hlt] at T1
          generalize l[k] = s at *
          have hbs := hbel.size
          have HB2 : Hid _ := ⟨hbel⟩
          have HP2 : Hid _ := ⟨o1⟩
          clear o1 hbel hcell hget HW
          cases hb0 : (s.b == 0)
          · rw [hb0] at T1
            have HT1 : Hid _ := ⟨T1⟩
            clear T1
            go_wp2_with (at_builtin; refine append_sym _ rfl _ _ rfl w.heap.size _ _ rfl HP2.out s _ rfl rfl (by rw [List.length_append]; omega) hbs ?_; intro v1 w1 hr1 hs1)
            go_roundw
            case rel => exact ⟨k + 1, hlt, by go_num, ⟨by rw [HT1.out]; simpa [List.append_assoc] using hr1, HB2.out.trans (hs1.below HP2.out HB2.out.size)⟩⟩
            case measure => simp [intOf]; omega
          · rw [hb0] at T1
            have HT1 : Hid _ := ⟨T1⟩
            clear T1
            go_wp2
            go_roundw
            case rel => exact ⟨k + 1, hlt, by go_num, ⟨by rw [HT1.out]; exact HP2.out, HB2.out⟩⟩
            case measure => simp [intOf]; omega
        · obtain rfl : k = l.length := by omega
          rw [List.take_of_length_le (Nat.le_refl _)] at o1
          have HP2 : Hid _ := ⟨o1⟩
          have HB3 : Hid _ := ⟨hbel⟩
          clear o1 hbel HW
          go_wp2
          go_ret2
          exact ⟨_, rfl, HP2.out, HB3.out⟩
end Go.Proofs.YtpdcbokcoaienaaDoor

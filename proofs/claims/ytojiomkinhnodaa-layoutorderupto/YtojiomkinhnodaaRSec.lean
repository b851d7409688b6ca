/- isAlign, isSection, isSymbol. -/
import Derived.Test.YtojiomkinhnodaaRFiles
namespace Go.Proofs.Ytojiomkinhnodaa
open Go.ChangeShapes Go.WideShapes Go.ChangeAt Go.RowKit Go.Maps
set_option linter.unusedVariables false
set_option linter.unusedSimpArgs false

def alB (n : Int) : Bool := decide (0 < n) && (decide (n ≤ 4096) && (bits BinOp.and IntKind.i64 n (wrap64 (n - 1)) == 0))
def secB (s : Sec) : Bool :=
  if !(bits BinOp.andNot IntKind.i64 s.fl 1031 == 0) || !alB s.al then false
  else if s.ty == 1 || (s.ty == 14 || s.ty == 15) then s.sz == (s.dn : Int)
  else if s.ty == 8 then ((s.dn : Int) == 0) && (decide (0 ≤ s.sz) && decide (s.sz ≤ 1073741824)) else false
def symB (s : Sym) (i : Sec) : Bool :=
  if s.t == 10 && (bits BinOp.and IntKind.i64 i.fl 4 == 0) then false
  else if empB s.sc then true
  else if s.sc.toList == [42] then !(s.t == 6)
  else decide (s.z ≤ wrap64 (i.sz - s.v)) && ((s.t == 6) == !(bits BinOp.and IntKind.i64 i.fl 1024 == 0))

theorem isAlign_any (n : Int) (w : World) : Calls Try.prog 80 #[.int .i64 n] w fun e w' => e = .returned (.bool (alB n)) ∧ w' = w := by
  unfold alB
  by_cases h1 : 0 < n
  · by_cases h2 : n ≤ 4096
    · rw [decide_eq_true h1, decide_eq_true h2, show wrap64 (n - 1) = n - 1 by unfold wrap64; omega]
      go_enter Try.func80, Try.ntmps80
      go_wp2
      go_ret
      exact ⟨rfl, rfl⟩
    · rw [decide_eq_true h1, decide_eq_false h2]
      go_enter Try.func80, Try.ntmps80
      go_wp2
      go_ret
      exact ⟨rfl, rfl⟩
  · rw [decide_eq_false h1]
    go_enter Try.func80, Try.ntmps80
    go_wp2
    go_ret
    exact ⟨rfl, rfl⟩

set_option maxHeartbeats 4000000 in
set_option maxRecDepth 10000 in
theorem isSection_any (s : Sec) (w : World) : Calls Try.prog 64 #[s.val] w fun e w' => e = .returned (.bool (secB s)) ∧ Below w.heap.size w w' := by
  have HA : Hid (∀ W, _) := ⟨fun W => isAlign_any s.al W⟩
  obtain ⟨nm, ty, fl, al, da, dn, dc, sz, ra, rn, rc⟩ := s
  dsimp only [Sec.val] at *
  obtain ⟨nf, hnf⟩ : ∃ p, (bits BinOp.andNot IntKind.i64 fl 1031 == 0) = p := ⟨_, rfl⟩
  have hnf' : (bits BinOp.andNot IntKind.i64 fl 1031 != 0) = !nf := by rw [bne, hnf]
  obtain ⟨t1, h1⟩ : ∃ p, (ty == 1) = p := ⟨_, rfl⟩
  obtain ⟨t14, h14⟩ : ∃ p, (ty == 14) = p := ⟨_, rfl⟩
  obtain ⟨t15, h15⟩ : ∃ p, (ty == 15) = p := ⟨_, rfl⟩
  obtain ⟨t8, h8⟩ : ∃ p, (ty == 8) = p := ⟨_, rfl⟩
  obtain ⟨z0, hz0⟩ : ∃ p, ((dn : Int) == 0) = p := ⟨_, rfl⟩
  obtain ⟨zd, hzd⟩ : ∃ p, (sz == (dn : Int)) = p := ⟨_, rfl⟩
  have HR : Hid (secB ⟨nm, ty, fl, al, da, dn, dc, sz, ra, rn, rc⟩ = (if !nf || !alB al then false else if t1 || (t14 || t15) then zd else if t8 then z0 && (decide (0 ≤ sz) && decide (sz ≤ 1073741824)) else false)) := ⟨by unfold secB; dsimp only; rw [hnf, h1, h14, h15, h8, hz0, hzd]⟩
  generalize secB ⟨nm, ty, fl, al, da, dn, dc, sz, ra, rn, rc⟩ = R at *
  generalize alB al = ab at *
  have HB : Hid _ := ⟨(Below.refl _ w).alloc (Nat.le_refl _) (.cells #[.string nm, .int .i64 ty, .int .i64 fl, .int .i64 al, .slice da dn dc, .int .i64 sz, .slice ra rn rc] 52)⟩
  go_enter Try.func64, Try.ntmps64
  cases nf
  · go_wp2
    go_ret
    exact ⟨ret_bool (by rw [HR.out]; rfl), HB.out⟩
  · cases ab
    · go_wp2_with (go_at_call 80; refine (HA.out _).mono ?_; rintro e w' ⟨rfl, hw'⟩; subst w')
      go_ret
      exact ⟨ret_bool (by rw [HR.out]; rfl), HB.out⟩
    · cases t1
      · cases t14
        · cases t15
          · cases t8
            · go_wp2_with (go_at_call 80; refine (HA.out _).mono ?_; rintro e w' ⟨rfl, hw'⟩; subst w')
              go_ret
              exact ⟨ret_bool (by rw [HR.out]; rfl), HB.out⟩
            · cases z0
              · go_wp2_with (go_at_call 80; refine (HA.out _).mono ?_; rintro e w' ⟨rfl, hw'⟩; subst w')
                all_goals (go_ret; exact ⟨ret_bool (by rw [HR.out]; rfl), HB.out⟩)
              · obtain ⟨g2, hg2⟩ : ∃ x, decide (sz ≤ 1073741824) = x := ⟨_, rfl⟩
                rw [hg2] at HR
                by_cases g1 : 0 ≤ sz
                · rw [decide_eq_true g1] at HR
                  go_wp2_with (go_at_call 80; refine (HA.out _).mono ?_; rintro e w' ⟨rfl, hw'⟩; subst w')
                  all_goals (go_ret; exact ⟨ret_bool (by rw [HR.out]; first | rfl | (simp only [hg2]; rfl)), HB.out⟩)
                · rw [decide_eq_false g1] at HR
                  go_wp2_with (go_at_call 80; refine (HA.out _).mono ?_; rintro e w' ⟨rfl, hw'⟩; subst w')
                  all_goals (go_ret; exact ⟨ret_bool (by rw [HR.out]; rfl), HB.out⟩)
          · go_wp2_with (go_at_call 80; refine (HA.out _).mono ?_; rintro e w' ⟨rfl, hw'⟩; subst w')
            all_goals (go_ret; exact ⟨ret_bool (by rw [HR.out]; rfl), HB.out⟩)
        · go_wp2_with (go_at_call 80; refine (HA.out _).mono ?_; rintro e w' ⟨rfl, hw'⟩; subst w')
          all_goals (go_ret; exact ⟨ret_bool (by rw [HR.out]; rfl), HB.out⟩)
      · go_wp2_with (go_at_call 80; refine (HA.out _).mono ?_; rintro e w' ⟨rfl, hw'⟩; subst w')
        all_goals (go_ret; exact ⟨ret_bool (by rw [HR.out]; rfl), HB.out⟩)

set_option maxHeartbeats 4000000 in
set_option maxRecDepth 10000 in
theorem isSymbol_any (s : Sym) (i : Sec) (w : World) : Calls Try.prog 66 #[s.val, i.val] w fun e w' => e = .returned (.bool (symB s i)) ∧ Below w.heap.size w w' := by
  obtain ⟨sn, sc, sv, sz, sb, st⟩ := s
  obtain ⟨nm, ty, fl, al, da, dn, dc, iz, ra, rn, rc⟩ := i
  dsimp only [Sec.val, Sym.val] at *
  obtain ⟨a4, h4⟩ : ∃ p, (bits BinOp.and IntKind.i64 fl 4 == 0) = p := ⟨_, rfl⟩
  obtain ⟨aT, hT⟩ : ∃ p, (bits BinOp.and IntKind.i64 fl 1024 == 0) = p := ⟨_, rfl⟩
  have hT' : (bits BinOp.and IntKind.i64 fl 1024 != 0) = !aT := by rw [bne, hT]
  obtain ⟨t10, h10⟩ : ∃ p, (st == 10) = p := ⟨_, rfl⟩
  obtain ⟨t6, h6⟩ : ∃ p, (st == 6) = p := ⟨_, rfl⟩
  have h6' : (st != 6) = !t6 := by rw [bne, h6]
  obtain ⟨e1, he1⟩ : ∃ x, sc.toList.isEmpty = x := ⟨_, rfl⟩
  obtain ⟨e2, he2⟩ : ∃ x, (sc.toList == [42]) = x := ⟨_, rfl⟩
  obtain ⟨le, hle⟩ : ∃ x, decide (sz ≤ wrap64 (iz - sv)) = x := ⟨_, rfl⟩
  have HR : Hid (symB ⟨sn, sc, sv, sz, sb, st⟩ ⟨nm, ty, fl, al, da, dn, dc, iz, ra, rn, rc⟩ = (if t10 && a4 then false else if e1 then true else if e2 then !t6 else le && (t6 == !aT))) := ⟨by unfold symB empB; dsimp only; rw [h10, h4, he1, he2, h6, hle, hT]⟩
  generalize symB ⟨sn, sc, sv, sz, sb, st⟩ ⟨nm, ty, fl, al, da, dn, dc, iz, ra, rn, rc⟩ = R at *
  have HB : Hid _ := ⟨((Below.refl _ w).alloc (Nat.le_refl _) (.cells #[.string sn, .string sc, .int .i64 sv, .int .i64 sz, .int .i64 sb, .int .i64 st] 80)).alloc (by simp) (.cells #[.string nm, .int .i64 ty, .int .i64 fl, .int .i64 al, .slice da dn dc, .int .i64 iz, .slice ra rn rc] 52)⟩
  go_enter Try.func66, Try.ntmps66
  cases t10 <;> cases a4 <;> cases e1 <;> cases e2 <;> cases le
  all_goals
    go_wp2
    all_goals first
      | (go_ret; exact ⟨ret_bool (by rw [HR.out]; rfl), HB.out⟩)
      | (cases t6 <;> cases aT <;> (go_ret; exact ⟨ret_bool (by rw [HR.out]; rfl), HB.out⟩))
      | trace_state
end Go.Proofs.Ytojiomkinhnodaa

/- The contracts on operands that may be: nameMayBe, indexMayBe, targetMayBe. -/
import Derived.Test.YtdgejingoamfeaaDoorSame
namespace Go.Proofs.YtdgejingoamfeaaDoor
open Go.ChangeShapes Go.WideShapes Go.ChangeAt Go.RowKit Go.Shelf
set_option linter.unusedVariables false

theorem Ints.bel {w v : World} {b : Nat} {zs : List Int} (h : Ints w b zs) (hb : Below w.heap.size w v) : Ints v b zs := fun j hj => to_bel hb (h j hj)

theorem nameMay_any (o : O) (b n c : Nat) (zs : List Int) (w : World) (hn : n = zs.length) (hb : n ≤ 100) (hc : Ints w b zs) :
    Calls Tryd.prog 84 #[o.val, .slice (some ⟨b, 0, none⟩) n c] w fun e w' => e = .returned (.bool (nameMayB o zs)) ∧ Below w.heap.size w w' := by
  have HC : Hid (∀ v, Below w.heap.size w v → Calls Tryd.prog 97 #[.slice (some ⟨b, 0, none⟩) n c, .int .i64 o.m] v fun e w' => e = .returned (.bool (zs.contains o.m)) ∧ w' = v) :=
    ⟨fun v hv => contains_any b n c zs o.m v hn hb (hc.bel hv)⟩
  clear hc hn hb
  unfold O.val
  cases he : empB o.nm
  · have he' : o.nm.toList.isEmpty = false := he
    obtain ⟨r, hr⟩ : ∃ r, zs.contains o.m = r := ⟨_, rfl⟩
    have HR : Hid (nameMayB o zs = (r && isNameB o.nm)) := ⟨by simp [nameMayB, he, ← hr]⟩
    rw [hr] at HC
    clear hr he
    cases r
    all_goals
      go_enter Tryd.func84, Tryd.ntmps84
      go_wp2_with (first
        | (go_at_call 97; refine (HC.out _ (bel_alloc (Below.refl _ _) _)).mono ?_; rintro e w1 ⟨rfl, hw⟩; subst w1)
        | (go_at_call 98; refine (isName_any _ _).mono ?_; rintro e w1 ⟨rfl, hw⟩; subst w1))
      go_ret
      exact ⟨ret_bool (by rw [HR.out]; rfl), bel_alloc (Below.refl _ _) _⟩
  · have he' : o.nm.toList.isEmpty = true := he
    have HR : Hid (nameMayB o zs = (o.m == 0)) := ⟨by simp [nameMayB, he]⟩
    clear he
    go_enter Tryd.func84, Tryd.ntmps84
    go_wp2
    go_ret
    exact ⟨ret_bool (by rw [HR.out]), bel_alloc (Below.refl _ _) _⟩

theorem ints_of {w : World} {b : Nat} : ∀ {zs : List Int}, (∀ j : Fin zs.length, w.cell? ⟨b, j.val, none⟩ = some (.int .i64 (zs.getD j.val 0))) → Ints w b zs := fun h j hj => h ⟨j, hj⟩
theorem ints1 {w : World} {b : Nat} {x : Int} (h0 : w.cell? ⟨b, 0, none⟩ = some (.int .i64 x)) : Ints w b [x] := by
  intro j hj
  match j, hj with
  | 0, _ => exact h0
theorem ints2 {w : World} {b : Nat} {x y : Int} (h0 : w.cell? ⟨b, 0, none⟩ = some (.int .i64 x)) (h1 : w.cell? ⟨b, 1, none⟩ = some (.int .i64 y)) : Ints w b [x, y] := by
  intro j hj
  match j, hj with
  | 0, _ => exact h0
  | 1, _ => exact h1
theorem ints3 {w : World} {b : Nat} {x y z : Int} (h0 : w.cell? ⟨b, 0, none⟩ = some (.int .i64 x)) (h1 : w.cell? ⟨b, 1, none⟩ = some (.int .i64 y)) (h2 : w.cell? ⟨b, 2, none⟩ = some (.int .i64 z)) : Ints w b [x, y, z] := by
  intro j hj
  match j, hj with
  | 0, _ => exact h0
  | 1, _ => exact h1
  | 2, _ => exact h2
theorem ints4 {w : World} {b : Nat} {x y z u : Int} (h0 : w.cell? ⟨b, 0, none⟩ = some (.int .i64 x)) (h1 : w.cell? ⟨b, 1, none⟩ = some (.int .i64 y)) (h2 : w.cell? ⟨b, 2, none⟩ = some (.int .i64 z)) (h3 : w.cell? ⟨b, 3, none⟩ = some (.int .i64 u)) : Ints w b [x, y, z, u] := by
  intro j hj
  match j, hj with
  | 0, _ => exact h0
  | 1, _ => exact h1
  | 2, _ => exact h2
  | 3, _ => exact h3

theorem indexMay_any (o : O) (w : World) :
    Calls Tryd.prog 85 #[o.val] w fun e w' => e = .returned (.bool (indexMayB o)) ∧ Below w.heap.size w w' := by
  unfold O.val
  by_cases hx : o.x = -1
  · have HR : Hid (indexMayB o = (o.s == 0)) := ⟨by simp [indexMayB, hx]⟩
    have hx' : (o.x == -1) = true := by simp [hx]
    go_enter Tryd.func85, Tryd.ntmps85
    go_wp2
    go_ret
    exact ⟨ret_bool (by rw [HR.out]), bel_alloc (Below.refl _ _) _⟩
  · obtain ⟨r, hr⟩ : ∃ r, isRegB o.x = r := ⟨_, rfl⟩
    obtain ⟨q, hq⟩ : ∃ q, (o.x != 4) = q := ⟨_, rfl⟩
    have HR : Hid (indexMayB o = (r && (q && [1, 2, 4, 8].contains o.s))) := ⟨by simp only [indexMayB, if_neg hx, hr, hq]⟩
    have hx' : (o.x == -1) = false := by simp [hx]
    have HG : Hid (∀ v, Calls Tryd.prog 44 #[.int .i64 o.x] v fun e w' => e = .returned (.bool r) ∧ w' = v) := ⟨fun v => hr ▸ isReg_any o.x v⟩
    clear hr hx
    have HC : Hid (∀ (v : World) b, Ints v b [1, 2, 4, 8] → Calls Tryd.prog 97 #[.slice (some ⟨b, 0, none⟩) 4 4, .int .i64 o.s] v fun e w' => e = .returned (.bool ([1, 2, 4, 8].contains o.s)) ∧ w' = v) :=
      ⟨fun v b hi => contains_any _ 4 4 [1, 2, 4, 8] o.s _ rfl (by omega) hi⟩
    generalize List.contains [1, 2, 4, 8] o.s = d at *
    cases r <;> cases q
    all_goals
      go_enter Tryd.func85, Tryd.ntmps85
      go_wp2_with (first
        | (go_at_call 44; refine (HG.out _).mono ?_; rintro e w1 ⟨rfl, hw⟩; subst w1)
        | (go_at_call 97; refine (HC.out _ _ (ints4 (by simp [go_sem]) (by simp [go_sem]) (by simp [go_sem]) (by simp [go_sem]))).mono ?_; rintro e w1 ⟨rfl, hw⟩; subst w1))
      go_ret
      refine ⟨ret_bool (HR.out.symm ▸ ?_), by repeat (first | exact Below.refl _ _ | refine bel_alloc ?_ _)⟩
      simp

set_option maxHeartbeats 2000000 in
theorem targetMay_any (o : O) (w : World) :
    Calls Tryd.prog 58 #[o.val] w fun e w' => e = .returned (.bool (targetMayB o)) ∧ Below w.heap.size w w' := by
  have FE : ∀ v, Sem.run Tryd.prog (binOp .eql 23 o.val (O.val ⟨4, 0, 0, 0, 0, false, false, o.n, o.nm, o.m⟩)) v = .ok (.bool (o.same ⟨4, 0, 0, 0, 0, false, false, o.n, o.nm, o.m⟩)) v := fun v => opd_eq _ _ v
  simp only [O.val] at FE
  obtain ⟨c, hc⟩ : ∃ c, o.same ⟨4, 0, 0, 0, 0, false, false, o.n, o.nm, o.m⟩ = c := ⟨_, rfl⟩
  obtain ⟨d, hd⟩ : ∃ d, nameMayB o [0, 1] = d := ⟨_, rfl⟩
  obtain ⟨f, hf⟩ : ∃ f, fitsSB o.n = f := ⟨_, rfl⟩
  obtain ⟨g, hg⟩ : ∃ g, o.nm.toList.isEmpty = g := ⟨_, rfl⟩
  have HR : Hid (targetMayB o = (c && (d && (f && (g || o.n == 0))))) := ⟨by simp only [targetMayB, hc, hd, hf, empB, hg]⟩
  have HN : Hid (∀ (v : World) b, Ints v b [0, 1] → Calls Tryd.prog 84 #[.agg #[.int .i64 o.k, .int .i64 o.r, .int .i64 o.b, .int .i64 o.x, .int .i64 o.s, .bool o.rip, .bool o.fs, .int .i64 o.n, .string o.nm, .int .i64 o.m], .slice (some ⟨b, 0, none⟩) 2 2] v fun e w' => e = .returned (.bool d) ∧ Below v.heap.size v w') :=
    ⟨fun v b hi => hd ▸ nameMay_any o b 2 2 [0, 1] v rfl (by omega) hi⟩
  have HF : Hid (∀ v, Calls Tryd.prog 86 #[.int .i64 o.n] v fun e w' => e = .returned (.bool f) ∧ w' = v) := ⟨fun v => hf ▸ fitsS_any o.n v⟩
  rw [hc] at FE
  unfold O.val
  clear hc hd hf
  cases c
  · go_enter Tryd.func58, Tryd.ntmps58
    go_wp2
    go_ret
    exact ⟨ret_bool (by rw [HR.out]; rfl), by repeat (first | exact Below.refl _ _ | refine bel_alloc ?_ _)⟩
  · rcases d with _ | _
    case' true => rcases f with _ | _
    case' true.true => rcases g with _ | _
    all_goals
      go_enter Tryd.func58, Tryd.ntmps58
      go_wp2_with (first
        | (go_at_call 84; refine (HN.out _ _ (ints2 (by simp [go_sem]) (by simp [go_sem]))).mono ?_; rintro e w1 ⟨rfl, hb⟩; obtain ⟨hcl, hfl⟩ := bcell hb; have hz : w.heap.size < w1.heap.size := (by have := hb.size; simp at this; omega))
        | (go_at_call 86; refine (HF.out _).mono ?_; rintro e w2 ⟨rfl, hw⟩; subst w2))
      go_ret
      exact ⟨ret_bool (by rw [HR.out]; rfl), by refine bel_trans ?_ hb; repeat (first | exact Below.refl _ _ | refine bel_alloc ?_ _)⟩
end Go.Proofs.YtdgejingoamfeaaDoor

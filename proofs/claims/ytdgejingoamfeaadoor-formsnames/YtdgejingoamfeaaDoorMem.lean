/- The contract of memoryMayBe. The contract of memoryMayBe, of the thread's base. The contract of memoryMayBe, of a base register. -/
import Derived.Test.YtdgejingoamfeaaDoorMay
import Derived.RegionTactic
import Derived.BigRegion
namespace Go.Proofs.YtdgejingoamfeaaDoor
open Go.ChangeShapes Go.WideShapes Go.ChangeAt Go.RowKit Go.Shelf
set_option linter.unusedVariables false

abbrev belAll (w v : World) : Prop := Below w.heap.size w v

theorem name_at (o : O) {d : Bool} {zs : List Int} (hd : nameMayB o zs = d) (n : Nat) (hn : n = zs.length) (hb : n ≤ 100) : Hid (∀ (v : World) b, Ints v b zs → Calls Tryd.prog 84 #[.agg #[.int .i64 o.k, .int .i64 o.r, .int .i64 o.b, .int .i64 o.x, .int .i64 o.s, .bool o.rip, .bool o.fs, .int .i64 o.n, .string o.nm, .int .i64 o.m], .slice (some ⟨b, 0, none⟩) n n] v fun e w' => e = .returned (.bool d) ∧ Below v.heap.size v w') :=
  ⟨fun v b hi => hd ▸ nameMay_any o b n n zs v hn hb hi⟩
theorem fits_at (n : Int) {f : Bool} (hf : fitsSB n = f) : Hid (∀ v, Calls Tryd.prog 86 #[.int .i64 n] v fun e w' => e = .returned (.bool f) ∧ w' = v) := ⟨fun v => hf ▸ fitsS_any n v⟩

set_option maxHeartbeats 2000000 in
theorem memMay_rip (o : O) (w : World) (hrip : o.rip = true) :
    Calls Tryd.prog 57 #[o.val] w fun e w' => e = .returned (.bool (memMayB o)) ∧ Below w.heap.size w w' := by
  have FE : ∀ v, Sem.run Tryd.prog (binOp .eql 23 o.val (O.val ⟨3, 0, -1, -1, 0, true, false, o.n, o.nm, o.m⟩)) v = .ok (.bool (o.same ⟨3, 0, -1, -1, 0, true, false, o.n, o.nm, o.m⟩)) v := fun v => opd_eq _ _ v
  simp only [O.val] at FE
  obtain ⟨c, hc⟩ : ∃ c, o.same ⟨3, 0, -1, -1, 0, true, false, o.n, o.nm, o.m⟩ = c := ⟨_, rfl⟩
  obtain ⟨d, hd⟩ : ∃ d, nameMayB o [0, 2, 3] = d := ⟨_, rfl⟩
  obtain ⟨g, hg⟩ : ∃ g, (o.m == 0) = g := ⟨_, rfl⟩
  obtain ⟨h, hh⟩ : ∃ h, (o.n == 0) = h := ⟨_, rfl⟩
  obtain ⟨f, hf⟩ : ∃ f, fitsSB o.n = f := ⟨_, rfl⟩
  have HR : Hid (memMayB o = ((d && (g || h)) && (c && f))) := ⟨by simp only [memMayB, hrip, if_true, hc, hd, hf, hg, hh]⟩
  have HN := name_at o hd 3 rfl (by omega)
  have HF := fits_at o.n hf
  rw [hc] at FE
  rw [hrip] at FE HN
  unfold O.val
  rw [hrip]
  clear hc hd hf hrip
  rcases d with _ | _
  case' true => rcases g with _ | _
  case' true.false => rcases h with _ | _
  case' true.true => rcases c with _ | _
  case' true.false.true => rcases c with _ | _
  all_goals
    go_enter Tryd.func57, Tryd.ntmps57
    go_wp2_with (first
      | (go_at_call 84; refine (HN.out _ _ (ints3 (by simp [go_sem]) (by simp [go_sem]) (by simp [go_sem]))).mono ?_; rintro e w1 ⟨rfl, hb⟩; obtain ⟨hcl, hfl⟩ := bcell hb; have hz : w.heap.size + 2 < w1.heap.size := (by have := hb.size; simp at this; omega))
      | (go_at_call 86; refine (HF.out _).mono ?_; rintro e w2 ⟨rfl, hw⟩; subst w2))
    go_ret
    exact ⟨ret_bool (by rw [HR.out]; rfl), by refine bel_trans ?_ hb; repeat (first | (with_reducible exact Below.refl _ _) | (with_reducible refine bel_alloc ?_ _) | ((with_reducible refine Below.setCell ?_ ?_ _); rotate_left; (focus (dsimp only; omega))))⟩

set_option maxHeartbeats 2000000 in
theorem memMay_fs (o : O) (w : World) (hrip : o.rip = false) (hfs : o.fs = true) :
    Calls Tryd.prog 57 #[o.val] w fun e w' => e = .returned (.bool (memMayB o)) ∧ Below w.heap.size w w' := by
  have FE : ∀ v, Sem.run Tryd.prog (binOp .eql 23 o.val (O.val ⟨3, 0, -1, -1, 0, false, true, o.n, o.nm, o.m⟩)) v = .ok (.bool (o.same ⟨3, 0, -1, -1, 0, false, true, o.n, o.nm, o.m⟩)) v := fun v => opd_eq _ _ v
  simp only [O.val] at FE
  obtain ⟨c, hc⟩ : ∃ c, o.same ⟨3, 0, -1, -1, 0, false, true, o.n, o.nm, o.m⟩ = c := ⟨_, rfl⟩
  obtain ⟨d, hd⟩ : ∃ d, nameMayB o [4] = d := ⟨_, rfl⟩
  obtain ⟨f, hf⟩ : ∃ f, fitsSB o.n = f := ⟨_, rfl⟩
  have HR : Hid (memMayB o = (d && (c && f))) := ⟨by simp only [memMayB, hrip, hfs, if_true, Bool.false_eq_true, if_false, hc, hd, hf]⟩
  have HN := name_at o hd 1 rfl (by omega)
  have HF := fits_at o.n hf
  rw [hc] at FE
  rw [hrip, hfs] at FE HN
  unfold O.val
  rw [hrip, hfs]
  clear hc hd hf hrip hfs
  rcases d with _ | _
  case' true => rcases c with _ | _
  all_goals
    go_enter Tryd.func57, Tryd.ntmps57
    go_wp2_with (first
      | (go_at_call 84; refine (HN.out _ _ (ints1 (by simp [go_sem]))).mono ?_; rintro e w1 ⟨rfl, hb⟩; obtain ⟨hcl, hfl⟩ := bcell hb; have hz : w.heap.size + 2 < w1.heap.size := (by have := hb.size; simp at this; omega))
      | (go_at_call 86; refine (HF.out _).mono ?_; rintro e w2 ⟨rfl, hw⟩; subst w2))
    go_ret
    exact ⟨ret_bool (by rw [HR.out]; rfl), by refine bel_trans ?_ hb; repeat (first | (with_reducible exact Below.refl _ _) | (with_reducible refine bel_alloc ?_ _) | ((with_reducible refine Below.setCell ?_ ?_ _); rotate_left; (focus (dsimp only; omega))))⟩

set_option maxHeartbeats 4000000 in
theorem memMay_base (o : O) (w : World) (hrip : o.rip = false) (hfs : o.fs = false) :
    Calls Tryd.prog 57 #[o.val] w fun e w' => e = .returned (.bool (memMayB o)) ∧ Below w.heap.size w w' := by
  have FE : ∀ v, Sem.run Tryd.prog (binOp .eql 23 o.val (O.val ⟨3, 0, o.b, o.x, o.s, false, false, o.n, o.nm, o.m⟩)) v = .ok (.bool (o.same ⟨3, 0, o.b, o.x, o.s, false, false, o.n, o.nm, o.m⟩)) v := fun v => opd_eq _ _ v
  simp only [O.val] at FE
  obtain ⟨c, hc⟩ : ∃ c, o.same ⟨3, 0, o.b, o.x, o.s, false, false, o.n, o.nm, o.m⟩ = c := ⟨_, rfl⟩
  obtain ⟨d, hd⟩ : ∃ d, nameMayB o [4, 5] = d := ⟨_, rfl⟩
  obtain ⟨g, hg⟩ : ∃ g, isRegB o.b = g := ⟨_, rfl⟩
  obtain ⟨h, hh⟩ : ∃ h, indexMayB o = h := ⟨_, rfl⟩
  obtain ⟨f, hf⟩ : ∃ f, fitsSB o.n = f := ⟨_, rfl⟩
  have HR : Hid (memMayB o = ((d && (g && h)) && (c && f))) := ⟨by simp only [memMayB, hrip, hfs, Bool.false_eq_true, if_false, hc, hd, hf, hg, hh]⟩
  have HN := name_at o hd 2 rfl (by omega)
  have HF := fits_at o.n hf
  have HG : Hid (∀ v, Calls Tryd.prog 44 #[.int .i64 o.b] v fun e w' => e = .returned (.bool g) ∧ w' = v) := ⟨fun v => hg ▸ isReg_any o.b v⟩
  have HI : Hid (∀ v, Calls Tryd.prog 85 #[.agg #[.int .i64 o.k, .int .i64 o.r, .int .i64 o.b, .int .i64 o.x, .int .i64 o.s, .bool o.rip, .bool o.fs, .int .i64 o.n, .string o.nm, .int .i64 o.m]] v fun e w' => e = .returned (.bool h) ∧ Below v.heap.size v w') := ⟨fun v => hh ▸ indexMay_any o v⟩
  rw [hc] at FE
  rw [hrip, hfs] at FE HN HI
  unfold O.val
  rw [hrip, hfs]
  clear hc hd hf hg hh hrip hfs
  go_enter Tryd.func57, Tryd.ntmps57
  go_wp2
  go_region
  rcases d with _ | _
  case' true => rcases g with _ | _
  case' true.true => rcases h with _ | _
  case' true.true.true => rcases c with _ | _
  case true.true.true.false | true.true.true.true =>
    go_wp2_with (first
      | (go_at_call 84; refine (HN.out _ _ (ints2 (by simp [go_sem]) (by simp [go_sem]))).mono ?_; rintro e w1 ⟨rfl, hb⟩; obtain ⟨hcl, hfl⟩ := bcell hb; have hz : w.heap.size + 2 < w1.heap.size := (by have := hb.size; simp at this; omega))
      | (go_at_call 44; refine (HG.out _).mono ?_; rintro e w2 ⟨rfl, hw⟩; subst w2)
      | (go_at_call 85; refine (HI.out _).mono ?_; rintro e w3 ⟨rfl, hb3⟩; have A1 : OA w1 w.heap.size ⟨o.k, o.r, o.b, o.x, o.s, false, false, o.n, o.nm, o.m⟩ := (by constructor <;> (rw [hcl _ _ (by simp; omega)]; simp [go_sem])); have D1 : OA w1 (w.heap.size + 1) ⟨3, 0, o.b, o.x, o.s, false, false, o.n, o.nm, o.m⟩ := (by constructor <;> (rw [hcl _ _ (by simp)]; simp [go_sem])); obtain ⟨p0, p1, p2, p3, p4, p5, p6, p7, p8, p9⟩ := A1.bel hb3; obtain ⟨q0, q1, q2, q3, q4, q5, q6, q7, q8, q9⟩ := D1.bel hb3; clear A1 D1)
      | (go_at_call 86; refine (HF.out _).mono ?_; rintro e w4 ⟨rfl, hw⟩; subst w4))
    go_ret
    exact ⟨ret_bool (by rw [HR.out]; rfl), by refine bel_trans (bel_trans ?_ hb) hb3; repeat (first | (with_reducible exact Below.refl _ _) | (with_reducible refine bel_alloc ?_ _) | (with_reducible refine below_drewN ?_ _) | (with_reducible refine Below.drew ?_) | ((with_reducible refine Below.setCell ?_ ?_ _); rotate_left; (focus (dsimp only; omega))))⟩
  case true.true.false =>
    go_wp2_with (first
      | (go_at_call 84; refine (HN.out _ _ (ints2 (by simp [go_sem]) (by simp [go_sem]))).mono ?_; rintro e w1 ⟨rfl, hb⟩; obtain ⟨hcl, hfl⟩ := bcell hb; have hz : w.heap.size + 2 < w1.heap.size := (by have := hb.size; simp at this; omega))
      | (go_at_call 44; refine (HG.out _).mono ?_; rintro e w2 ⟨rfl, hw⟩; subst w2)
      | (go_at_call 85; refine (HI.out _).mono ?_; rintro e w3 ⟨rfl, hb3⟩; obtain ⟨hcl3, hfl3⟩ := bcell hb3; have hz3 : w.heap.size + 2 < w3.heap.size := (by have := hb3.size; omega)))
    go_ret
    exact ⟨ret_bool (by rw [HR.out]; rfl), by refine bel_trans (bel_trans ?_ hb) hb3; repeat (first | (with_reducible exact Below.refl _ _) | (with_reducible refine bel_alloc ?_ _) | (with_reducible refine below_drewN ?_ _) | (with_reducible refine Below.drew ?_) | ((with_reducible refine Below.setCell ?_ ?_ _); rotate_left; (focus (dsimp only; omega))))⟩
  all_goals
    go_wp2_with (first
      | (go_at_call 84; refine (HN.out _ _ (ints2 (by simp [go_sem]) (by simp [go_sem]))).mono ?_; rintro e w1 ⟨rfl, hb⟩; obtain ⟨hcl, hfl⟩ := bcell hb; have hz : w.heap.size + 2 < w1.heap.size := (by have := hb.size; simp at this; omega))
      | (go_at_call 44; refine (HG.out _).mono ?_; rintro e w2 ⟨rfl, hw⟩; subst w2))
    go_ret
    exact ⟨ret_bool (by rw [HR.out]; rfl), by refine bel_trans ?_ hb; repeat (first | (with_reducible exact Below.refl _ _) | (with_reducible refine bel_alloc ?_ _) | (with_reducible refine below_drewN ?_ _) | (with_reducible refine Below.drew ?_) | ((with_reducible refine Below.setCell ?_ ?_ _); rotate_left; (focus (dsimp only; omega))))⟩
end Go.Proofs.YtdgejingoamfeaaDoor

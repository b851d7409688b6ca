/- The contract of memoryMayBe. -/
import Derived.Test.YtdgejingoamfeaaDoorMay
import Derived.RegionTactic
import Derived.BigRegion
namespace Go.Proofs.YtdgejingoamfeaaDoor
open Go.ChangeShapes Go.WideShapes Go.ChangeAt Go.RowKit Go.Shelf
set_option linter.unusedVariables false

abbrev belAll (w v : World) : Prop := Below w.heap.size w v

theorem name_at (o : O) {d : Bool} {zs : List Int} (hd : nameMayB o zs = d) (n : Nat) (hn : n = zs.length) (hb : n ≤ 100) : Hid (∀ (v : World) b, Ints v b zs → Calls Tryd.prog 84 #[.agg #[.int .i64 o.k, .int .i64 o.r, .int .i64 o.b, .int .i64 o.x, .int .i64 o.s, .bool o.rip, .bool o.fs, .int .i64 o.n, .string o.nm, .int .i64 o.m], .slice (some ⟨b, 0, none⟩) n n] v fun e w' => e = .returned (.bool d) ∧ Below v.heap.size v w') :=
  ⟨fun v b hi => hd ▸ nameMay_any o b n n zs v hn hb hi⟩
theorem fits_at (n : Int) {f : Bool} (hf : fitsSB n = f) : Hid (∀ v, Calls Tryd.prog 86 #[.int .i64 n] v fun e w' => e = .returned (.bool f) ∧ w' = v) := ⟨fun v => hf ▸ fitsS_any n v⟩

set_option maxHeartbeats 2000000 in
theorem memMay_rip (o : O) (w : World) (hrip : o.rip = true) :
    Calls Tryd.prog 57 #[o.val] w fun e w' => e = .returned (.bool (memMayB o)) ∧ Below w.heap.size w w' := by
  have FE : ∀ v, Sem.run Tryd.prog (binOp .eql 23 o.val (O.val ⟨3, 0, -1, -1, 0, true, false, o.n, o.nm, o.m⟩)) v = .ok (.bool (o.same ⟨3, 0, -1, -1, 0, true, false, o.n, o.nm, o.m⟩)) v := fun v => opd_eq _ _ v
  simp only [O.val] at FE
  obtain ⟨c, hc⟩ : ∃ c, o.same ⟨3, 0, -1, -1, 0, true, false, o.n, o.nm, o.m⟩ = c := ⟨_, rfl⟩
  obtain ⟨d, hd⟩ : ∃ d, nameMayB o [0, 2, 3] = d := ⟨_, rfl⟩
  obtain ⟨g, hg⟩ : ∃ g, (o.m == 0) = g := ⟨_, rfl⟩
  obtain ⟨h, hh⟩ : ∃ h, (o.n == 0) = h := ⟨_, rfl⟩
  obtain ⟨f, hf⟩ : ∃ f, fitsSB o.n = f := ⟨_, rfl⟩
  have HR : Hid (memMayB o = ((d && (g || h)) && (c && f))) := ⟨by simp only [memMayB, hrip, if_true, hc, hd, hf, hg, hh]⟩
  have HN := name_at o hd 3 rfl (by omega)
  have HF := fits_at o.n hf
  rw [hc] at FE
  rw [hrip] at FE HN
  unfold O.val
  rw [hrip]
  clear hc hd hf hrip
  rcases d with _ | _
  case' true => rcases g with _ | _
  case' true.false => rcases h with _ | _
  case' true.true => rcases c with _ | _
  case' true.false.true => rcases c with _ | _
  all_goals
    go_enter Tryd.func57, Tryd.ntmps57
    go_wp2_with (first
      | (go_at_call 84; refine (HN.out _ _ (ints3 (by simp [go_sem]) (by simp [go_sem]) (by simp [go_sem]))).mono ?_; rintro e w1 ⟨rfl, hb⟩; obtain ⟨hcl, hfl⟩ := bcell hb; have hz : w.heap.size + 2 < w1.heap.size := (by have := hb.size; simp at this; omega))
      | (go_at_call 86; refine (HF.out _).mono ?_; rintro e w2 ⟨rfl, hw⟩; subst w2))
    go_ret
    exact ⟨ret_bool (by rw [HR.out]; rfl), by refine bel_trans ?_ hb; repeat (first | (with_reducible exact Below.refl _ _) | (with_reducible refine bel_alloc ?_ _) | ((with_reducible refine Below.setCell ?_ ?_ _); rotate_left; (focus (dsimp only; omega))))⟩
end Go.Proofs.YtdgejingoamfeaaDoor

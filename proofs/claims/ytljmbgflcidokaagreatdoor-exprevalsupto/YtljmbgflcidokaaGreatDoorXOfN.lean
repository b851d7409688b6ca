/- An operator of numbers, of values; one. -/
import Derived.Test.YtljmbgflcidokaaGreatDoorXOps
namespace Go.Proofs.YtljmbgflcidokaaGreatDoor
open Go.ChangeShapes Go.WideShapes Go.ChangeAt Go.RowKit
set_option linter.unusedVariables false
set_option linter.unusedSimpArgs false

/-- What a function of two numbers answers. -/
def FnN (J : Nat) (f : Int → Int → Option Int) : Prop := ∀ (x y : Int) (w : World), Calls Tryz.prog J #[.int .i64 x, .int .i64 y] w fun e w' => e = .returned (nE (f x y)) ∧ w' = w
theorem vE_num (r : Option Int) : ∃ z er, nE r = .tuple #[.int .i64 z, .int .i64 er] ∧ vE (r.map Vx.num) = .tuple #[.agg #[.string ⟨#[]⟩, .string ⟨#[]⟩, .int .i64 z], .int .i64 er] := by
  cases r with
  | none => exact ⟨0, 110, rfl, vE_none⟩
  | some z => exact ⟨z, 0, rfl, vE_some _ _ _⟩

set_option maxHeartbeats 1000000 in
theorem ofNumbers_any (J : Nat) (f : Int → Int → Option Int) (hJ : FnN J f) (hent : ∀ (args : Array Value) (w : World), (callFunc J args).run Tryz.prog w = .ok (.enter J args) w) (a b : Vx) (cb : Nat) (w : World) (hc : w.cell? ⟨cb, 0, none⟩ = some (.func (.func J) #[] #[])) : Calls Tryz.prog 68 #[.agg #[.string a.p, .string a.m, .int .i64 a.n], .agg #[.string b.p, .string b.m, .int .i64 b.n], .pointer (some ⟨cb, 0, none⟩)] w fun e w' => e = .returned (vE (ofN f a b)) ∧ Below w.heap.size w w' := by
  obtain ⟨p, m, n⟩ := a
  obtain ⟨q, k, i⟩ := b
  have HA : Hid _ := ⟨isNumber_any p m n⟩
  have HB : Hid _ := ⟨isNumber_any q k i⟩
  have HJ : Hid _ := ⟨hJ n i⟩
  obtain ⟨M, hM⟩ : ∃ M, ofN f ⟨p, m, n⟩ ⟨q, k, i⟩ = M := ⟨_, rfl⟩
  rw [hM]
  unfold ofN at hM
  have HM : Hid _ := ⟨hM⟩
  clear hM hJ
  simp only at HM ⊢
  have V2 := (VB.new w p m n).alloc (.cells #[.string q, .string k, .int .i64 i] 27) |>.alloc zV
  have V3 := (VB.at (w.alloc (.cells #[.string p, .string m, .int .i64 n] 27)) q k i (w.heap.size + 1) (by simp)).alloc zV
  have V4 := (VB.at ((w.alloc (.cells #[.string p, .string m, .int .i64 n] 27)).alloc (.cells #[.string q, .string k, .int .i64 i] 27)) ⟨#[]⟩ ⟨#[]⟩ 0 (w.heap.size + 1 + 1) (by simp))
  have B0 : Below w.heap.size w (((w.alloc (.cells #[.string p, .string m, .int .i64 n] 27)).alloc (.cells #[.string q, .string k, .int .i64 i] 27)).alloc zV) := bel_alloc (bel_alloc (bel_alloc (Below.refl _ _) _) _) _
  have C0 := up_alloc (up_alloc (up_alloc hc (.cells #[.string p, .string m, .int .i64 n] 27)) (.cells #[.string q, .string k, .int .i64 i] 27)) zV
  cases h1 : sB p m
  · rw [h1] at HA HM
    have hm : M = none := by rw [← HM.out]; rfl
    subst hm
    rw [vE_none]
    clear HB HJ HM
    go_enter Tryz.func68, Tryz.ntmps68
    go_wp2_with (go_at_call 69; (with_reducible refine (HA.out _).mono ?_); rintro e w1 ⟨rfl, hb1⟩; have W4 := V4.bel hb1 V4.lt; obtain ⟨f0, f1, f2, f3⟩ := W4)
    refine bodyPost_ret (resV_ofN _ _ (w.heap.size + 1 + 1) _ _ _ rfl ((V4.bel hb1 V4.lt).set _ _ _)) rfl ⟨rfl, ?_⟩
    exact (((bel_trans B0 hb1).setCell (by dsimp only; omega) _).setCell (by dsimp only; omega) _).setCell (by dsimp only; omega) _
  · rw [h1] at HA HM
    cases h2 : sB q k
    · rw [h2] at HB HM
      have hm : M = none := by rw [← HM.out]; rfl
      subst hm
      rw [vE_none]
      clear HJ HM
      go_enter Tryz.func68, Tryz.ntmps68
      go_wp2_with (first
        | (have _ := M1; go_at_call 69; (with_reducible refine (HB.out _).mono ?_); rintro e w2 ⟨rfl, hb2⟩; have W4 := HV.out.2.2.1.bel hb2 HV.out.2.2.1.lt; obtain ⟨f0, f1, f2, f3⟩ := W4)
        | (go_at_call 69; (with_reducible refine (HA.out _).mono ?_); rintro e w1 ⟨rfl, hb1⟩; have M1 := True.intro; have HV : Hid (S4 w w1 p m n q k i) := ⟨S4.bel ⟨V2, V3, V4, B0⟩ hb1⟩; obtain ⟨e0, e1, e2, e3⟩ := HV.out.2.1))
      refine bodyPost_ret (resV_ofN _ _ (w.heap.size + 1 + 1) _ _ _ rfl ((HV.out.bel hb2).2.2.1.set _ _ _)) rfl ⟨rfl, ?_⟩
      exact (((HV.out.bel hb2).2.2.2.setCell (by dsimp only; omega) _).setCell (by dsimp only; omega) _).setCell (by dsimp only; omega) _
    · rw [h2] at HB HM
      have hm : M = (f n i).map Vx.num := HM.out.symm
      subst hm
      clear HM
      generalize f n i = r at *
      obtain ⟨z, er, hr1, hr2⟩ := vE_num r
      rw [hr1] at HJ
      rw [hr2]
      clear hr1 hr2
      go_enter Tryz.func68, Tryz.ntmps68
      go_wp2_with (first
        | (have _ := M1; go_at_call 69; (with_reducible refine (HB.out _).mono ?_); rintro e w2 ⟨rfl, hb2⟩; have HV2 : Hid _ := ⟨HV.out.bel hb2⟩; have c2 := to_bel hb2 c1; obtain ⟨e0, e1, e2, e3⟩ := HV2.out.2.1; obtain ⟨d0, d1, d2, d3⟩ := HV2.out.1; obtain ⟨f0, f1, f2, f3⟩ := HV2.out.2.2.1; clear hb2 C0 c1)
        | (go_at_call 69; (with_reducible refine (HA.out _).mono ?_); rintro e w1 ⟨rfl, hb1⟩; have M1 := True.intro; have HV : Hid (S4 w w1 p m n q k i) := ⟨S4.bel ⟨V2, V3, V4, B0⟩ hb1⟩; have c1 := to_bel hb1 C0; obtain ⟨e0, e1, e2, e3⟩ := HV.out.2.1)
        | (go_at_fn J; (with_reducible refine (HJ.out _).mono ?_); rintro e w' ⟨rfl, hw'⟩; subst w'))
      refine bodyPost_ret (resV_ofN _ _ (w.heap.size + 1 + 1) _ _ _ rfl (HV2.out.2.2.1.set _ _ _)) rfl ⟨rfl, ?_⟩
      exact ((HV2.out.2.2.2.setCell (by dsimp only; omega) _).setCell (by dsimp only; omega) _).setCell (by dsimp only; omega) _

theorem ofNumbers_make (J : Nat) (w : World) : Calls Tryz.prog 41 #[.func (.func J) #[] #[]] w fun e w' => e = .returned (.func (.func 68) #[] #[.pointer (some ⟨w.heap.size, 0, none⟩)]) ∧ w' = w.alloc (.cells #[.func (.func J) #[] #[]] 101) := by
  have hmf : ∀ (fn : Fn) (first cap : Array Value) (w : World), (Instr.makeFunc fn first cap).run Tryz.prog w = .ok (.func fn first cap) w := by intros; rfl
  go_enter Tryz.func41, Tryz.ntmps41
  go_wp2
  go_ret
  exact ⟨rfl, rfl⟩
end Go.Proofs.YtljmbgflcidokaaGreatDoor

/- Named. -/
import Derived.Test.YtibmblojannlcaaYIdx
namespace Go.Proofs.Ytibmblojannlcaa
open Go.ChangeShapes Go.WideShapes Go.ChangeAt Go.RowKit Go.Maps
set_option linter.unusedVariables false
set_option linter.unusedSimpArgs false

theorem nm_tl (a b : ByteArray) : (a.toList == b.toList) = nmB a b := by
  unfold nmB
  rw [ByteArray.toList_eq, ByteArray.toList_eq]
  by_cases h : a = b
  · subst h; simp
  · rw [decide_eq_false h, beq_eq_false_iff_ne]
    exact fun e => h (ByteArray.ext (Array.toList_inj.1 e))


set_option maxHeartbeats 2000000 in
theorem clN_any (s : Ou) (n : ByteArray) (nb : Nat) (W : World) (h : W.cell? ⟨nb, 0, none⟩ = some (.string n)) : Calls Try.prog 32 #[s.val, .pointer (some ⟨nb, 0, none⟩)] W fun e w' => e = .returned (.bool (nmB s.nm n)) ∧ Below W.heap.size W w' := by
  obtain ⟨nm, o1, o2, o3, o4, o5⟩ := s
  have hl := World.block_lt_of_cell? W _ h
  have hl2 : nb ≠ W.heap.size := by have : nb < W.heap.size := hl; omega
  obtain ⟨q, hq⟩ : ∃ q, nmB nm n = q := ⟨_, rfl⟩
  have hq2 : (nm.toList == n.toList) = q := by rw [nm_tl, hq]
  have HB : Hid _ := ⟨(Below.refl W.heap.size W).alloc (Nat.le_refl _) (.cells #[.string nm, .int .i64 o1, .int .i64 o2, .int .i64 o3, .int .i64 o4, .int .i64 o5] 47)⟩
  dsimp only [Ou.val]
  rw [hq]
  clear hq
  go_enter Try.func32, Try.ntmps32
  go_wp2
  go_ret
  exact ⟨rfl, HB.out⟩
theorem enN : ∀ args w, (callFunc 32 args).run Try.prog w = .ok (.enter 32 args) w := enters_of Try.func32 (by kernel_rfl) rfl
/-- The section of a name. -/
def nmdO (l : List Ou) (n : ByteArray) : Option Ou := fstO (fun o => nmB o.nm n) l
set_option maxHeartbeats 8000000 in
set_option maxRecDepth 20000 in
theorem named_any (l : List Ou) (n : ByteArray) (oa aa sa : Option Addr) (oc an ac sn sc : Nat) (i1 i2 i3 i4 i5 : Int) (w : World) (hl : l.length ≤ 2097152) (hr : Outs w oa l) :
    Calls Try.prog 14 #[.agg #[.slice oa l.length oc, .slice aa an ac, .slice sa sn sc, .int .i64 i1, .int .i64 i2, .int .i64 i3, .int .i64 i4, .int .i64 i5], .string n] w fun e w' => e = .returned (.tuple #[((nmdO l n).getD Ou.zero).val, .bool (nmdO l n).isSome]) ∧ Below w.heap.size w w' := by
  obtain ⟨B, hB⟩ : ∃ B, w.heap.size = B := ⟨_, rfl⟩
  obtain ⟨w3, hw3⟩ : ∃ w3, ((w.alloc (.cells #[.slice oa l.length oc, .slice aa an ac, .slice sa sn sc, .int .i64 i1, .int .i64 i2, .int .i64 i3, .int .i64 i4, .int .i64 i5] 28)).alloc (.cells #[.string n] 9)).alloc (.cells #[.string ⟨#[]⟩, .int .i64 0, .int .i64 0, .int .i64 0, .int .i64 0, .int .i64 0] 47) = w3 := ⟨_, rfl⟩
  have HB3 : Hid (Below B w w3) := ⟨by rw [← hw3, ← hB]; exact (((Below.refl _ _).alloc (Nat.le_refl _) _).alloc (by simp) _).alloc (by simp; omega) _⟩
  have K0 : Bk w3 B 28 #[.slice oa l.length oc, .slice aa an ac, .slice sa sn sc, .int .i64 i1, .int .i64 i2, .int .i64 i3, .int .i64 i4, .int .i64 i5] := by rw [← hw3, ← hB]; exact ((Bk.new _ _ _).alloc _).alloc _
  have K1 : Bk w3 (B + 1) 9 #[.string n] := by
    rw [← hw3, ← hB]
    have := (Bk.new (w.alloc (.cells #[.slice oa l.length oc, .slice aa an ac, .slice sa sn sc, .int .i64 i1, .int .i64 i2, .int .i64 i3, .int .i64 i4, .int .i64 i5] 28)) #[.string n] 9).alloc (.cells #[.string ⟨#[]⟩, .int .i64 0, .int .i64 0, .int .i64 0, .int .i64 0, .int .i64 0] 47)
    simpa using this
  have K2 : Bk w3 (B + 2) 47 (encO Ou.zero).toArray := by
    rw [← hw3, ← hB]
    have := Bk.new ((w.alloc (.cells #[.slice oa l.length oc, .slice aa an ac, .slice sa sn sc, .int .i64 i1, .int .i64 i2, .int .i64 i3, .int .i64 i4, .int .i64 i5] 28)).alloc (.cells #[.string n] 9)) #[.string ⟨#[]⟩, .int .i64 0, .int .i64 0, .int .i64 0, .int .i64 0, .int .i64 0] 47
    simp only [World.size_alloc] at this
    exact this
  have HRR : Hid _ := ⟨hr.below HB3.out (Nat.le_of_eq hB)⟩
  have HFS : Hid _ := ⟨first_any 32 (fun o => nmB o.nm n) #[.pointer (some ⟨B + 1, 0, none⟩)] oa oc l w3 hl HRR.out enN (fun s W h => clN_any s n (B + 1) W ((K1.bel h K1.lt).cell 0 rfl))⟩
  have m0 : w3.cell? ⟨B, 0, none⟩ = some (.slice oa l.length oc) := K0.cell 0 rfl
  have HK2 : Hid _ := ⟨K2⟩
  have HFO : Hid (fstO (fun o => nmB o.nm n) l = nmdO l n) := ⟨rfl⟩
  rw [HFO.out] at HFS
  generalize ((nmdO l n).getD Ou.zero) = x at *
  generalize (nmdO l n).isSome = y at *
  clear K0 K1 K2 hr
  go_enter Try.func14, Try.ntmps14
  go_upto_region 1 with (fail)
  clear hw3
  obtain ⟨nm, o1, o2, o3, o4, o5⟩ := x
  dsimp only [Ou.val] at *
  go_wp2_with (go_at_call 31; (with_reducible refine HFS.out.mono ?_); rintro e w4 ⟨rfl, hb4⟩; have HBB : Hid _ := ⟨hb4⟩; clear hb4; have HB4 : Hid (Below B w w4) := ⟨bt2 hB HB3.out HBB.out⟩; have KP := HK2.out.bel HBB.out HK2.out.lt; have k0 := KP.cell 0 rfl; have f0 := KP.fro 0; have k1 := KP.cell 1 rfl; have f1 := KP.fro 1; have k2 := KP.cell 2 rfl; have f2 := KP.fro 2; have k3 := KP.cell 3 rfl; have f3 := KP.fro 3; have k4 := KP.cell 4 rfl; have f4 := KP.fro 4; have k5 := KP.cell 5 rfl; have f5 := KP.fro 5; have HKE : Hid _ := ⟨((((((KP.setC 0 (.string nm)).setC 1 (.int .i64 o1)).setC 2 (.int .i64 o2)).setC 3 (.int .i64 o3)).setC 4 (.int .i64 o4)).setC 5 (.int .i64 o5))⟩; have HFE : Hid _ := ⟨(bel_setC (bel_setC (bel_setC (bel_setC (bel_setC (bel_setC HB4.out ⟨B + 2, 0, none⟩ (show B ≤ B + 2 by omega) (.string nm)) ⟨B + 2, 1, none⟩ (show B ≤ B + 2 by omega) (.int .i64 o1)) ⟨B + 2, 2, none⟩ (show B ≤ B + 2 by omega) (.int .i64 o2)) ⟨B + 2, 3, none⟩ (show B ≤ B + 2 by omega) (.int .i64 o3)) ⟨B + 2, 4, none⟩ (show B ≤ B + 2 by omega) (.int .i64 o4)) ⟨B + 2, 5, none⟩ (show B ≤ B + 2 by omega) (.int .i64 o5))⟩; have HKP : Hid _ := ⟨KP⟩; clear KP)
  exact bodyPost_ret (v := .tuple #[(⟨nm, o1, o2, o3, o4, o5⟩ : Ou).val, .bool y]) (res_out (q := 4) (u := 5) (by kernel_rfl) _ _ (B + 2) ⟨nm, o1, o2, o3, o4, o5⟩ _ (by kernel_rfl) ⟨HKE.out.hp⟩ (by kernel_rfl)) rfl ⟨rfl, by rw [hB]; exact HFE.out⟩
end Go.Proofs.Ytibmblojannlcaa

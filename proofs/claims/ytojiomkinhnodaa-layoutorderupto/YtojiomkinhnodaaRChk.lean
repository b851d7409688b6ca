/- Check of objects. -/
import Derived.Test.YtojiomkinhnodaaRCheck
namespace Go.Proofs.Ytojiomkinhnodaa
open Go.ChangeShapes Go.WideShapes Go.ChangeAt Go.RowKit Go.Maps
set_option linter.unusedVariables false
set_option linter.unusedSimpArgs false

theorem errL_app : ∀ (a b : List Fl), errL a = 0 → errL (a ++ b) = errL b
  | [], _, _ => rfl
  | f :: r, b, h => by
    unfold errL at h
    by_cases e : errF f = 0
    · rw [e] at h
      simp only [beq_self_eq_true, Bool.not_true, Bool.false_eq_true, if_false] at h
      rw [List.cons_append]
      conv => lhs; unfold errL
      rw [e]
      simp only [beq_self_eq_true, Bool.not_true, Bool.false_eq_true, if_false]
      exact errL_app r b h
    · rw [if_pos (by simp [e])] at h
      exact absurd h e
theorem errL_bad (f : Fl) (r : List Fl) (h : (errF f == 0) = false) : errL (f :: r) = errF f := by
  unfold errL; rw [h]; rfl
theorem errL_good (f : Fl) (r : List Fl) (h : (errF f == 0) = true) : errL (f :: r) = errL r := by
  conv => lhs; unfold errL
  rw [h]; rfl

set_option maxHeartbeats 8000000 in
set_option maxRecDepth 20000 in
theorem pcheck_any (ao : Option Addr) (c : Nat) (l : List Fl) (w : World) (hb : FlsB l) (hin : Fls w ao l) : Calls Try.prog 17 #[.slice ao l.length c] w fun e w' => e = .returned (.int .i64 (checkL l)) ∧ Below w.heap.size w w' := by
  have HE : Hid (checkL l = if 16 < l.length then 6 else errL l) := ⟨rfl⟩
  generalize checkL l = E at *
  have HIN : Hid _ := ⟨hin⟩
  have HBD : Hid _ := ⟨hb.each⟩
  have hln := hb.n
  clear hin hb
  by_cases h16 : 16 < l.length
  · have hE : E = 6 := by rw [HE.out, if_pos h16]
    go_enter Try.func17, Try.ntmps17
    go_wp2
    go_ret
    exact ⟨by rw [hE]; rfl, Below.refl _ _⟩
  · rw [if_neg h16] at HE
    have HI : Hid (Below w.heap.size w w) := ⟨Below.refl _ _⟩
    obtain ⟨B, hB⟩ : ∃ B, w.heap.size = B := ⟨_, rfl⟩
    go_enter Try.func17, Try.ntmps17
    go_upto_region 4 with (fail)
    go_loopw [11] (fun i wr => ∃ k : Nat, k ≤ l.length ∧ i = .int .i64 k ∧ Hid (Below B w wr ∧ errL (l.take k) = 0)) (fun i _ => l.length - (intOf i).toNat)
    case atStart => exact ⟨0, by omega, rfl, ⟨by rw [← hB]; exact Below.refl _ _, rfl⟩⟩
    case round =>
      obtain ⟨k, hk, rfl, HW⟩ := hrel
      have hbs := HW.out.1.size
      by_cases hlt : k < l.length
      · obtain ⟨b, off, rfl, hcell⟩ : ∃ b off, ao = some ⟨b, off, none⟩ ∧ ∀ i, i < l.length → FlAt wr b (off + i * 2) (l.getD i Fl.zero) := by
          rcases HIN.out.below HW.out.1 (by omega) with h | h
          · subst h; simp at hlt
          · exact h
        obtain ⟨c0, c1, hfi⟩ := hcell k hlt
        have hget : l.getD k Fl.zero = l[k] := by simp [hlt]
        rw [hget] at c0 c1 hfi
        have hfb := HBD.out _ (List.getElem_mem hlt)
        have HO : Hid (∀ W, Below wr.heap.size wr W → Calls Try.prog 33 #[l[k].val] W fun e w' => e = .returned (.int .i64 (errF l[k])) ∧ Below W.heap.size W w') := ⟨fun W h => checkObject_any l[k] W hfb (hfi.below h (Nat.le_refl _))⟩
        have HBAD : Hid ((errF l[k] == 0) = false → E = errF l[k]) := ⟨fun h => by
          rw [HE.out]
          have e : l = l.take k ++ (l[k] :: l.drop (k + 1)) := by rw [List.getElem_cons_drop, List.take_append_drop]
          conv => lhs; rw [e]
          rw [errL_app _ _ HW.out.2, errL_bad _ _ h]⟩
        have HGO : Hid ((errF l[k] == 0) = true → errL (l.take (k + 1)) = 0) := ⟨fun h => by
          rw [List.take_succ_eq_append_getElem hlt, errL_app _ _ HW.out.2, errL_good _ _ h]; rfl⟩
        clear hcell hget hfb hfi
        generalize errF l[k] = x at *
        obtain ⟨f, hf⟩ : ∃ f, f = l[k] := ⟨_, rfl⟩
        rw [← hf] at c0 c1 HO
        clear hf
        obtain ⟨sa, sc, secs, ya, yc, syms⟩ := f
        dsimp only [Fl.val] at *
        obtain ⟨q, hq⟩ : ∃ q, (x == 0) = q := ⟨_, rfl⟩
        have hq' : (x != 0) = !q := by rw [bne, hq]
        rw [hq] at HBAD HGO
        have HO2 : Hid _ := ⟨HO.out (wr.alloc (.cells #[.slice sa secs.length sc, .slice ya syms.length yc] 41)) ((Below.refl _ _).alloc (Nat.le_refl _) _)⟩
        have HB2 : Hid (Below B w (wr.alloc (.cells #[.slice sa secs.length sc, .slice ya syms.length yc] 41))) := ⟨HW.out.1.alloc (by omega) _⟩
        cases q
        · have HX := HBAD.out rfl
          go_wp2_with (go_at_call 33; refine HO2.out.mono ?_; rintro e w3 ⟨rfl, hb3⟩)
          go_ret
          exact ⟨by rw [HX]; rfl, by first | exact bt2 hB HB2.out hb3 | (rw [hB]; exact bt2 hB HB2.out hb3)⟩
        · have HX := HGO.out rfl
          go_wp2_with (go_at_call 33; refine HO2.out.mono ?_; rintro e w3 ⟨rfl, hb3⟩)
          go_roundw
          case rel => exact ⟨k + 1, hlt, by go_num, ⟨bt2 hB HB2.out hb3, HX⟩⟩
          case measure => simp [intOf]; omega
      · obtain rfl : k = l.length := by omega
        rw [List.take_of_length_le (Nat.le_refl _)] at HW
        have hE : E = 0 := by rw [HE.out, HW.out.2]
        go_wp2
        go_ret
        exact ⟨by rw [hE]; rfl, by first | exact HW.out.1 | (rw [hB]; exact HW.out.1)⟩
end Go.Proofs.Ytojiomkinhnodaa

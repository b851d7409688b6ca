/- The document's Look. -/
import Derived.Test.YtgoaegembijdcaaRRef
namespace Go.Proofs.Ytgoaegembijdcaa
open Go.ChangeShapes Go.WideShapes Go.ChangeAt Go.RowKit Go.Maps
set_option linter.unusedVariables false
set_option linter.unusedSimpArgs false

theorem look_hit (y : List Sym) (t : List En) (o : Int) (n : ByteArray) (j : Nat) (hj : j < y.length) (h : (y.take j).all (fun s => !(nmB s.nm n && s.b == 0)) = true) (h1 : nmB y[j].nm n = true) (h2 : (y[j].b == 0) = true) : lookS y t o n = ⟨o, (j : Int), 0⟩ := by
  have e : idxP (fun s => nmB s.nm n && s.b == 0) y = (j : Int) := idxP_at j hj h (by rw [h1, h2]; rfl)
  have a : y.any (fun s => nmB s.nm n) = true := List.any_eq_true.2 ⟨_, List.getElem_mem hj, h1⟩
  unfold lookS
  rw [e, a]
  simp
theorem look_end (y : List Sym) (t : List En) (o : Int) (n : ByteArray) (h : y.all (fun s => !(nmB s.nm n && s.b == 0)) = true) : lookS y t o n = if !(y.any (fun s => nmB s.nm n)) || !(findO t n).isSome then ⟨0, 0, 3⟩ else ⟨(findX t n).o, (findX t n).k, 0⟩ := by
  have e : idxP (fun s => nmB s.nm n && s.b == 0) y = -1 := idxP_none h
  unfold lookS
  rw [e]
  cases y.any (fun s => nmB s.nm n) <;> cases (findO t n).isSome <;> simp
theorem any_take_succ {α : Type} (p : α → Bool) (l : List α) (k : Nat) (hk : k < l.length) : (l.take (k + 1)).any p = ((l.take k).any p || p l[k]) := by
  rw [List.take_succ_eq_append_getElem hk, List.any_append]; simp

set_option maxHeartbeats 8000000 in
set_option maxRecDepth 20000 in
theorem rlook_any (ao ta : Option Addr) (c tc : Nat) (l : List Fl) (t : List En) (o : Int) (n : ByteArray) (w : World) (hl : l.length ≤ 2097152) (hn : ∀ f ∈ l, f.syms.length ≤ 2097152) (ht : t.length ≤ 2097152) (hr : Fls w ao l) (he : Ents w ta t) :
    Calls Try.prog 10 #[.slice ao l.length c, .slice ta t.length tc, .int .i64 o, .string n] w fun e w' => e = .returned (lookE l t o n).val ∧ Below w.heap.size w w' := by
  have HF : Hid (Below w.heap.size w w) := ⟨Below.refl _ _⟩
  have HLE : Hid (lookE l t o n = if o < 0 then ⟨0, 0, 1⟩ else if (l.length : Int) ≤ o then ⟨0, 0, 1⟩ else lookS (l.getD o.toNat Fl.zero).syms t o n) := ⟨rfl⟩
  generalize lookE l t o n = X at *
  by_cases h0 : o < 0
  · obtain rfl : X = ⟨0, 0, 1⟩ := by rw [HLE.out, if_pos h0]
    go_enter Try.func10, Try.ntmps10
    go_wp2
    refine bodyPost_ret (v := .tuple #[.int .i64 0, .int .i64 0, .int .i64 1]) (by kernel_rfl) rfl ?_
    exact ⟨rfl, HF.out⟩
  · by_cases h1 : (l.length : Int) ≤ o
    · obtain rfl : X = ⟨0, 0, 1⟩ := by rw [HLE.out, if_neg h0, if_pos h1]
      go_enter Try.func10, Try.ntmps10
      go_wp2
      refine bodyPost_ret (v := .tuple #[.int .i64 0, .int .i64 0, .int .i64 1]) (by kernel_rfl) rfl ?_
      exact ⟨rfl, HF.out⟩
    · have hX : X = lookS (l.getD o.toNat Fl.zero).syms t o n := by rw [HLE.out, if_neg h0, if_neg h1]
      obtain ⟨k, rfl⟩ : ∃ k : Nat, o = (k : Int) := ⟨o.toNat, by omega⟩
      have hk : k < l.length := by omega
      rw [Int.toNat_natCast] at hX
      obtain ⟨b, off, rfl, hcell⟩ : ∃ b off, ao = some ⟨b, off, none⟩ ∧ ∀ i, i < l.length → FlAt w b (off + i * 2) (l.getD i Fl.zero) := by
        rcases hr with h | h
        · subst h; simp at hk
        · exact h
      obtain ⟨c0, c1, hfi⟩ := hcell k hk
      have hyn : (l.getD k Fl.zero).syms.length ≤ 2097152 := by
        have : l.getD k Fl.zero = l[k] := by simp [hk]
        rw [this]; exact hn _ (List.getElem_mem hk)
      clear hcell HLE hr hn
      generalize l.getD k Fl.zero = f at *
      obtain ⟨sa, sc, secs, ya, yc, y⟩ := f
      have HSY : Hid (Syms w ya y) := ⟨hfi.sy⟩
      have HHE : Hid _ := ⟨he⟩
      dsimp only at *
      have HC1 : Hid _ := ⟨c1⟩
      clear hfi c0 he c1
      have H3 : Hid (∀ W, Below w.heap.size w W → Calls Try.prog 8 #[.slice ta t.length tc, .string n] W fun e w' => e = .returned (.tuple #[(findX t n).val, .bool (findO t n).isSome]) ∧ Below W.heap.size W w') := ⟨fun W h => rfind_any ta tc t n W (by omega) (HHE.out.below h (Nat.le_refl _))⟩
      have HHIT : Hid (∀ j (hj : j < y.length), (y.take j).all (fun s => !(nmB s.nm n && s.b == 0)) = true → nmB y[j].nm n = true → (y[j].b == 0) = true → X = ⟨(k : Int), (j : Int), 0⟩) := ⟨fun j hj a b c => by rw [hX]; exact look_hit y t _ n j hj a b c⟩
      have HEND : Hid (y.all (fun s => !(nmB s.nm n && s.b == 0)) = true → X = if !(y.any (fun s => nmB s.nm n)) || !(findO t n).isSome then ⟨0, 0, 3⟩ else ⟨(findX t n).o, (findX t n).k, 0⟩) := ⟨fun h => by rw [hX]; exact look_end y t _ n h⟩
      clear hX
      generalize findX t n = fx at *
      generalize (findO t n).isSome = q3 at *
      obtain ⟨fn, fo, fk, fb, ft⟩ := fx
      dsimp only [En.val] at *
      go_enter Try.func10, Try.ntmps10
      go_upto_region 5 with (fail)
      go_loopw [11, 12] (fun x i wr => ∃ j : Nat, j ≤ y.length ∧ i = .int .i64 j ∧ x = .bool ((y.take j).any (fun s => nmB s.nm n)) ∧ Hid (Below w.heap.size w wr ∧ (y.take j).all (fun s => !(nmB s.nm n && s.b == 0)) = true)) (fun _ i _ => y.length - (intOf i).toNat)
      case atStart => exact ⟨0, by omega, rfl, by simp, ⟨HF.out, by simp⟩⟩
      case round =>
        obtain ⟨j, hj, rfl, rfl, HW⟩ := hrel
        have c1 := up_c HC1.out HW.out.1
        by_cases hlt : j < y.length
        · obtain ⟨b', off', rfl, hcell⟩ : ∃ b off, ya = some ⟨b, off, none⟩ ∧ ∀ i, i < y.length → SymAt wr b (off + i * 6) (y.getD i Sym.none) := by
            rcases HSY.out.below HW.out.1 (Nat.le_refl _) with h | h
            · subst h; simp at hlt
            · exact h
          obtain ⟨d0, d1, d2, d3, d4, d5⟩ := hcell j hlt
          have hget : y.getD j Sym.none = y[j] := by simp [hlt]
          rw [hget] at d0 d1 d2 d3 d4 d5
          have HH := HHIT.out j hlt HW.out.2
          have HHH : Hid _ := ⟨HH⟩
          have HT : Hid ((nmB y[j].nm n && y[j].b == 0) = false → (y.take (j + 1)).all (fun s => !(nmB s.nm n && s.b == 0)) = true) := ⟨fun h => by rw [all_take_succ _ _ _ hlt, HW.out.2, h]; rfl⟩
          have HAN : Hid ((y.take (j + 1)).any (fun s => nmB s.nm n) = ((y.take j).any (fun s => nmB s.nm n) || nmB y[j].nm n)) := ⟨any_take_succ _ _ _ hlt⟩
          obtain ⟨s, hs⟩ : ∃ s, s = y[j] := ⟨_, rfl⟩
          rw [← hs] at d0 d1 d2 d3 d4 d5 HHH HT HAN
          clear hcell hget hs HH
          obtain ⟨q, hq⟩ : ∃ q, nmB s.nm n = q := ⟨_, rfl⟩
          have hq2 : (s.nm.toList == n.toList) = q := by rw [nm_tl, hq]
          rw [hq] at HHH HT HAN
          clear hq
          obtain ⟨nm, sn, sv, sz, bd, ty⟩ := s
          dsimp only at *
          obtain ⟨z, hz⟩ : ∃ z, (bd == 0) = z := ⟨_, rfl⟩
          rw [hz] at HHH HT
          generalize (y.take j).any (fun s => nmB s.nm n) = sn0 at *
          have HB : Hid _ := ⟨HW.out.1.alloc HW.out.1.size (.cells #[.string nm, .string sn, .int .i64 sv, .int .i64 sz, .int .i64 bd, .int .i64 ty] 54)⟩
          cases q
          · have hT := HT.out rfl
            cases sn0
            all_goals
              go_wp2
              go_roundw
              case rel => exact ⟨j + 1, hlt, by go_num, by rw [HAN.out]; rfl, ⟨HB.out, hT⟩⟩
              case measure => simp [intOf]; omega
          · cases z
            · have hT := HT.out rfl
              cases sn0
              all_goals
                go_wp2
                go_roundw
                case rel => exact ⟨j + 1, hlt, by go_num, by rw [HAN.out]; rfl, ⟨HB.out, hT⟩⟩
                case measure => simp [intOf]; omega
            · obtain rfl := HHH.out rfl rfl
              go_wp2
              refine bodyPost_ret (v := .tuple #[.int .i64 (k : Int), .int .i64 (j : Int), .int .i64 0]) (by kernel_rfl) rfl ?_
              exact ⟨rfl, HB.out⟩
        · obtain rfl : j = y.length := by omega
          rw [List.take_of_length_le (Nat.le_refl _)] at HW
          rw [List.take_of_length_le (Nat.le_refl _)]
          have HE := HEND.out HW.out.2
          have HEE : Hid _ := ⟨HE⟩
          clear HE
          generalize y.any (fun s => nmB s.nm n) = sn0 at *
          have H3' : Hid _ := ⟨H3.out wr HW.out.1⟩
          have hbs := HW.out.1.size
          cases sn0
          · obtain rfl := HEE.out
            go_wp2_with (go_at_call 8; (with_reducible refine H3'.out.mono ?_); rintro e w3 ⟨rfl, hb3⟩)
            refine bodyPost_ret (v := .tuple #[.int .i64 0, .int .i64 0, .int .i64 3]) (by kernel_rfl) rfl ?_
            exact ⟨rfl, (HW.out.1.trans (hb3.mono hbs)).alloc (by have := hb3.size; omega) _⟩
          · cases q3
            · obtain rfl := HEE.out
              go_wp2_with (go_at_call 8; (with_reducible refine H3'.out.mono ?_); rintro e w3 ⟨rfl, hb3⟩)
              refine bodyPost_ret (v := .tuple #[.int .i64 0, .int .i64 0, .int .i64 3]) (by kernel_rfl) rfl ?_
              exact ⟨rfl, (HW.out.1.trans (hb3.mono hbs)).alloc (by have := hb3.size; omega) _⟩
            · obtain rfl : X = ⟨fo, fk, 0⟩ := HEE.out
              go_upto_region 14 with (go_at_call 8; (with_reducible refine H3'.out.mono ?_); rintro e w3 ⟨rfl, hb3⟩)
              have FE := (HW.out.1.trans (hb3.mono hbs)).alloc (by have := hb3.size; omega) (.cells #[.string fn, .int .i64 fo, .int .i64 fk, .int .i64 fb, .int .i64 ft] 26)
              have HFE : Hid _ := ⟨FE⟩
              have KE := Bk.new w3 #[.string fn, .int .i64 fo, .int .i64 fk, .int .i64 fb, .int .i64 ft] 26
              obtain ⟨P, hP⟩ : ∃ P, w3.heap.size = P := ⟨_, rfl⟩
              rw [hP] at KE ⊢
              clear hP hb3
              generalize w3.alloc (.cells #[.string fn, .int .i64 fo, .int .i64 fk, .int .i64 fb, .int .i64 ft] 26) = w4 at *
              have e1 : w4.cell? ⟨P, 1, none⟩ = some (.int .i64 fo) := KE.cell 1 rfl
              have e2 : w4.cell? ⟨P, 2, none⟩ = some (.int .i64 fk) := KE.cell 2 rfl
              clear KE FE
              go_quiet (fail)
              go_wp2
              refine bodyPost_ret (v := .tuple #[.int .i64 fo, .int .i64 fk, .int .i64 0]) (by kernel_rfl) rfl ?_
              exact ⟨rfl, below_drewN HFE.out _⟩
end Go.Proofs.Ytgoaegembijdcaa

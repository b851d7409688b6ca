/- Look. -/
import Derived.Test.YtgoaegembijdcaaRFind
import Derived.Test.YtgoaegembijdcaaRFiles
namespace Go.Proofs.Ytgoaegembijdcaa
open Go.ChangeShapes Go.WideShapes Go.ChangeAt Go.RowKit Go.Maps
set_option linter.unusedVariables false
set_option linter.unusedSimpArgs false

structure Lk where
  o : Int
  k : Int
  e : Int
/-- What Look answers, of an object's symbols. -/
def lookS (y : List Sym) (t : List En) (o : Int) (n : ByteArray) : Lk :=
  if !(y.any (fun s => nmB s.nm n)) then ⟨0, 0, 3⟩
  else if 0 ≤ idxP (fun s => nmB s.nm n && s.b == 0) y then ⟨o, idxP (fun s => nmB s.nm n && s.b == 0) y, 0⟩
  else if (findO t n).isSome then ⟨(findX t n).o, (findX t n).k, 0⟩ else ⟨0, 0, 3⟩
def lookE (l : List Fl) (t : List En) (o : Int) (n : ByteArray) : Lk :=
  if o < 0 then ⟨0, 0, 1⟩ else if (l.length : Int) ≤ o then ⟨0, 0, 1⟩ else lookS (l.getD o.toNat Fl.zero).syms t o n
abbrev Lk.val (x : Lk) : Value := .tuple #[.int .i64 x.o, .int .i64 x.k, .int .i64 x.e]

set_option maxHeartbeats 8000000 in
set_option maxRecDepth 20000 in
theorem plook_any (ao ta : Option Addr) (c tc : Nat) (l : List Fl) (t : List En) (o : Int) (n : ByteArray) (w : World) (hl : l.length ≤ 2097152) (hn : ∀ f ∈ l, f.syms.length ≤ 2097152) (ht : t.length ≤ 2097152) (hr : Fls w ao l) (he : Ents w ta t) :
    Calls Try.prog 9 #[.slice ao l.length c, .slice ta t.length tc, .int .i64 o, .string n] w fun e w' => e = .returned (lookE l t o n).val ∧ Below w.heap.size w w' := by
  obtain ⟨B, hB⟩ : ∃ B, w.heap.size = B := ⟨_, rfl⟩
  have K0 : Bk (w.alloc (.cells #[.string n] 9)) B 9 #[.string n] := by rw [← hB]; exact Bk.new _ _ _
  have F0 : Below B w (w.alloc (.cells #[.string n] 9)) := by rw [← hB]; exact (Below.refl _ _).alloc (Nat.le_refl _) _
  have HK : Hid _ := ⟨K0⟩
  have HF : Hid _ := ⟨F0⟩
  have HLE : Hid (lookE l t o n = if o < 0 then ⟨0, 0, 1⟩ else if (l.length : Int) ≤ o then ⟨0, 0, 1⟩ else lookS (l.getD o.toNat Fl.zero).syms t o n) := ⟨rfl⟩
  generalize lookE l t o n = X at *
  clear K0 F0
  by_cases h0 : o < 0
  · obtain rfl : X = ⟨0, 0, 1⟩ := by rw [HLE.out, if_pos h0]
    go_enter Try.func9, Try.ntmps9
    go_wp2
    refine bodyPost_ret (v := .tuple #[.int .i64 0, .int .i64 0, .int .i64 1]) (by kernel_rfl) rfl ?_
    exact ⟨rfl, by first | exact HF.out | (rw [hB]; exact HF.out)⟩
  · by_cases h1 : (l.length : Int) ≤ o
    · obtain rfl : X = ⟨0, 0, 1⟩ := by rw [HLE.out, if_neg h0, if_pos h1]
      go_enter Try.func9, Try.ntmps9
      go_wp2
      refine bodyPost_ret (v := .tuple #[.int .i64 0, .int .i64 0, .int .i64 1]) (by kernel_rfl) rfl ?_
      exact ⟨rfl, by first | exact HF.out | (rw [hB]; exact HF.out)⟩
    · have hX : X = lookS (l.getD o.toNat Fl.zero).syms t o n := by rw [HLE.out, if_neg h0, if_neg h1]
      obtain ⟨k, rfl⟩ : ∃ k : Nat, o = (k : Int) := ⟨o.toNat, by omega⟩
      have hk : k < l.length := by omega
      rw [Int.toNat_natCast] at hX
      obtain ⟨b, off, rfl, hcell⟩ : ∃ b off, ao = some ⟨b, off, none⟩ ∧ ∀ i, i < l.length → FlAt (w.alloc (.cells #[.string n] 9)) b (off + i * 2) (l.getD i Fl.zero) := by
        rcases hr.below HF.out (by omega) with h | h
        · subst h; simp at hk
        · exact h
      obtain ⟨c0, c1, hfi⟩ := hcell k hk
      have hyn : (l.getD k Fl.zero).syms.length ≤ 2097152 := by
        have : l.getD k Fl.zero = l[k] := by simp [hk]
        rw [this]; exact hn _ (List.getElem_mem hk)
      have HXX : Hid _ := ⟨hX⟩
      have HHE : Hid (∀ W, Below B w W → Ents W ta t) := ⟨fun W h => he.below h (by omega)⟩
      clear hcell HLE hr he hn hX
      generalize l.getD k Fl.zero = f at *
      obtain ⟨sa, sc, secs, ya, yc, y⟩ := f
      have hz0 : (w.alloc (.cells #[.string n] 9)).heap.size = B + 1 := by rw [← hB]; simp
      have HSY : Hid (∀ W, Below (B + 1) (w.alloc (.cells #[.string n] 9)) W → Syms W ya y) := ⟨fun W h => hfi.sy.below h (by rw [hz0]; exact Nat.le_refl _)⟩
      dsimp only at *
      clear hfi c0
      have H1 : Hid (Calls Try.prog 23 #[.slice ya y.length yc, .func (.func 24) #[] #[.pointer (some ⟨B, 0, none⟩)]] (w.alloc (.cells #[.string n] 9)) fun e w' => e = .returned (.bool (y.any (fun s => nmB s.nm n))) ∧ Below (w.alloc (.cells #[.string n] 9)).heap.size (w.alloc (.cells #[.string n] 9)) w') := ⟨coY_any 24 (fun s => nmB s.nm n) #[.pointer (some ⟨B, 0, none⟩)] ya yc y _ (by omega) (HSY.out _ (Below.refl _ _)) en1 (fun s W hW => cl1_any s n B W ((HK.out.bel hW HK.out.lt).cell 0 rfl))⟩
      have H2 : Hid (∀ W, Below (B + 1) (w.alloc (.cells #[.string n] 9)) W → Calls Try.prog 25 #[.slice ya y.length yc, .func (.func 26) #[] #[.pointer (some ⟨B, 0, none⟩)]] W fun e w' => e = .returned (.int .i64 (idxP (fun s => nmB s.nm n && s.b == 0) y)) ∧ Below W.heap.size W w') := ⟨fun W h => ixY_any 26 (fun s => nmB s.nm n && s.b == 0) #[.pointer (some ⟨B, 0, none⟩)] ya yc y W (by omega) (HSY.out _ h) en2 (fun s V hV => cl2_any s n B V (((HK.out.bel h (by omega)).bel hV (HK.out.bel h (by omega)).lt).cell 0 rfl))⟩
      have H3 : Hid (∀ W, Below B w W → Calls Try.prog 7 #[.slice ta t.length tc, .string n] W fun e w' => e = .returned (.tuple #[(findX t n).val, .bool (findO t n).isSome]) ∧ Below W.heap.size W w') := ⟨fun W h => pfind_any ta tc t n W (by omega) (HHE.out _ h)⟩
      have HL : Hid (X = (if !(y.any (fun s => nmB s.nm n)) then ⟨0, 0, 3⟩ else if 0 ≤ idxP (fun s => nmB s.nm n && s.b == 0) y then ⟨(k : Int), idxP (fun s => nmB s.nm n && s.b == 0) y, 0⟩ else if (findO t n).isSome then ⟨(findX t n).o, (findX t n).k, 0⟩ else ⟨0, 0, 3⟩)) := ⟨HXX.out⟩
      clear HXX HHE HSY
      generalize y.any (fun s => nmB s.nm n) = q1 at *
      generalize idxP (fun s => nmB s.nm n && s.b == 0) y = ix at *
      generalize findX t n = fx at *
      generalize (findO t n).isSome = q3 at *
      obtain ⟨fn, fo, fk, fb, ft⟩ := fx
      dsimp only [En.val] at *
      go_enter Try.func9, Try.ntmps9
      go_upto_region 4 with (fail)
      generalize w.alloc (.cells #[.string n] 9) = w0 at *
      cases q1
      · obtain rfl : X = ⟨0, 0, 3⟩ := HL.out
        go_wp2_with (go_at_call 23; (with_reducible refine H1.out.mono ?_); rintro e w1 ⟨rfl, hb1⟩)
        refine bodyPost_ret (v := .tuple #[.int .i64 0, .int .i64 0, .int .i64 3]) (by kernel_rfl) rfl ?_
        have FE := bt hB HF.out hb1
        exact ⟨rfl, by first | exact FE | (rw [hB]; exact FE)⟩
      · go_upto_region 6 with (go_at_call 23; (with_reducible refine H1.out.mono ?_); rintro e w1 ⟨rfl, hb1⟩)
        have H2' : Hid _ := ⟨H2.out w1 (by rw [← hz0]; exact hb1)⟩
        have HF1 : Hid (Below B w w1) := ⟨bt hB HF.out hb1⟩
        have HK1 : Hid _ := ⟨HK.out.bel hb1 HK.out.lt⟩
        clear H1 H2 hb1 c1
        go_upto_region 7 with (go_at_call 25; (with_reducible refine H2'.out.mono ?_); rintro e w2 ⟨rfl, hb2⟩)
        have HF2 : Hid (Below B w w2) := ⟨bt hB HF1.out hb2⟩
        have b0 : w2.cell? ⟨B, 0, none⟩ = some (.string n) := (HK1.out.bel hb2 HK1.out.lt).cell 0 rfl
        clear H2' hb2
        by_cases hix : 0 ≤ ix
        · obtain rfl : X = ⟨(k : Int), ix, 0⟩ := by rw [HL.out]; simp [hix]
          go_wp2
          refine bodyPost_ret (v := .tuple #[.int .i64 (k : Int), .int .i64 ix, .int .i64 0]) (by kernel_rfl) rfl ?_
          exact ⟨rfl, by first | exact HF2.out | (rw [hB]; exact HF2.out)⟩
        · have HL2 : Hid (X = if q3 = true then ⟨fo, fk, 0⟩ else ⟨0, 0, 3⟩) := ⟨by rw [HL.out]; simp [hix]⟩
          clear HL
          have H3' : Hid _ := ⟨H3.out w2 HF2.out⟩
          cases q3
          · obtain rfl : X = ⟨0, 0, 3⟩ := HL2.out
            go_wp2_with (go_at_call 7; (with_reducible refine H3'.out.mono ?_); rintro e w3 ⟨rfl, hb3⟩)
            refine bodyPost_ret (v := .tuple #[.int .i64 0, .int .i64 0, .int .i64 3]) (by kernel_rfl) rfl ?_
            have FE := (bt hB HF2.out hb3).alloc (by have := HF2.out.size; have := hb3.size; omega) (.cells #[.string fn, .int .i64 fo, .int .i64 fk, .int .i64 fb, .int .i64 ft] 27)
            exact ⟨rfl, by first | exact FE | (rw [hB]; exact FE)⟩
          · obtain rfl : X = ⟨fo, fk, 0⟩ := HL2.out
            go_upto_region 12 with (go_at_call 7; (with_reducible refine H3'.out.mono ?_); rintro e w3 ⟨rfl, hb3⟩)
            have FE := (bt hB HF2.out hb3).alloc (by have := HF2.out.size; have := hb3.size; omega) (.cells #[.string fn, .int .i64 fo, .int .i64 fk, .int .i64 fb, .int .i64 ft] 27)
            have HFE : Hid _ := ⟨FE⟩
            have KE := Bk.new w3 #[.string fn, .int .i64 fo, .int .i64 fk, .int .i64 fb, .int .i64 ft] 27
            obtain ⟨P, hP⟩ : ∃ P, w3.heap.size = P := ⟨_, rfl⟩
            rw [hP] at KE ⊢
            clear hP hb3
            generalize w3.alloc (.cells #[.string fn, .int .i64 fo, .int .i64 fk, .int .i64 fb, .int .i64 ft] 27) = w4 at *
            have e1 : w4.cell? ⟨P, 1, none⟩ = some (.int .i64 fo) := KE.cell 1 rfl
            have e2 : w4.cell? ⟨P, 2, none⟩ = some (.int .i64 fk) := KE.cell 2 rfl
            clear KE FE
            go_quiet (fail)
            go_wp2
            refine bodyPost_ret (v := .tuple #[.int .i64 fo, .int .i64 fk, .int .i64 0]) (by kernel_rfl) rfl ?_
            have FE2 : ∀ q, Below B w (w4.drewN q) := fun q => below_drewN HFE.out q
            exact ⟨rfl, by first | exact FE2 _ | (rw [hB]; exact FE2 _)⟩
end Go.Proofs.Ytgoaegembijdcaa

/- The program's reader: kinds of bytes, what is passed over, what was gone past. -/
import Derived.Test.YtljmbgflcidokaaGreatDoorQxS
import Derived.Shelf.Pu.Clone
namespace Go.Proofs.YtljmbgflcidokaaGreatDoor
open Go.ChangeShapes Go.WideShapes Go.ChangeAt Go.RowKit
set_option linter.unusedVariables false
set_option linter.unusedSimpArgs false

open Go.Shelf in
theorem lays25 : LaysPu.n25 Tryz.prog { f := fun k => if k = 25 then 121 else 0, t := fun k => if k = 37 then 116 else if k = 47 then 163 else k, g := fun _ => 0 } :=
  { mixed := by kernel_rfl
    f25 := Tryz.func121.trans (congrArg some (by kernel_rfl))
    t0 := by kernel_rfl
    a0 := fun _ => by kernel_rfl
    z0 := fun _ => by kernel_rfl
    v0 := fun _ => by kernel_rfl
    i0 := by kernel_rfl
    t3 := by kernel_rfl
    a3 := fun _ => by kernel_rfl
    z3 := fun _ => by kernel_rfl
    v3 := fun _ => by kernel_rfl
    i3 := by kernel_rfl
    t4 := by kernel_rfl
    a4 := fun _ => by kernel_rfl
    z4 := fun _ => by kernel_rfl
    v4 := fun _ => by kernel_rfl
    i4 := by kernel_rfl
    t5 := by kernel_rfl
    a5 := fun _ => by kernel_rfl
    z5 := fun _ => by kernel_rfl
    v5 := fun _ => by kernel_rfl
    i5 := by kernel_rfl
    t9 := by kernel_rfl
    a9 := fun _ => by kernel_rfl
    z9 := fun _ => by kernel_rfl
    v9 := fun _ => by kernel_rfl
    i9 := by kernel_rfl
    t37 := by kernel_rfl
    a37 := fun _ => by kernel_rfl
    z37 := fun _ => by kernel_rfl
    v37 := fun _ => by kernel_rfl
    i37 := by kernel_rfl
    t47 := by kernel_rfl
    a47 := fun _ => by kernel_rfl
    z47 := fun _ => by kernel_rfl
    v47 := fun _ => by kernel_rfl
    i47 := by kernel_rfl }

theorem clone_any (s : ByteArray) (w : World) (hl : s.size ≤ 281474976710656) : Calls Tryz.prog 121 #[.string s] w fun e w' => e = .returned (.string s) ∧ Below w.heap.size w w' :=
  AnyPu.stringslite_Clone lays25 s w hl
theorem sclone_any (s : ByteArray) (w : World) (hl : s.size ≤ 281474976710656) : Calls Tryz.prog 110 #[.string s] w fun e w' => e = .returned (.string s) ∧ Below w.heap.size w w' := by
  have HC : Hid _ := ⟨clone_any s w hl⟩
  go_enter Tryz.func110, Tryz.ntmps110
  go_wp2_with (go_at_call 121; (with_reducible refine HC.out.mono ?_); rintro e w1 ⟨rfl, hb⟩)
  go_ret
  exact ⟨rfl, hb⟩

section
variable {w w' : World} {rb : Nat} {s : ByteArray} {a : Nat} {ln : Int} {lv : Value}

def atOf (w : World) (rb : Nat) : Nat := (intOf ((w.cell? ⟨rb, 1, none⟩).getD (.int .i64 0))).toNat
theorem RD.atOf (h : RD w rb s a ln lv) : atOf w rb = a := by unfold Go.Proofs.YtljmbgflcidokaaGreatDoor.atOf; rw [h.c1]; simp [intOf]

theorem is_any (h : RD w rb s a ln lv) (K : Nat) : Calls Tryz.prog 76 #[.pointer (some ⟨rb, 0, none⟩), .int .u8 K] w fun e w' => e = .returned (.bool (kB K (hdZ (Ln s a)))) ∧ ∃ m, w' = w.drewN m := by
  have hb := hd_byte (Ln s a)
  have HP0 := fun n => peek_any (h.drewN n)
  obtain ⟨n, hn⟩ : ∃ n : Nat, hdZ (Ln s a) = n := ⟨(hdZ (Ln s a)).toNat, by omega⟩
  rw [hn] at hb HP0 ⊢
  have HP : Hid _ := ⟨HP0⟩
  have HH : Hid _ := ⟨fun m => has_any (h.drewN m) K n (by omega)⟩
  clear HP0 h hn
  go_enter Tryz.func76, Tryz.ntmps76
  go_wp2
  go_quiet (first
    | (go_at_call 55; with_reducible exact Calls.quiet_of (HP.out _))
    | (go_at_call 93; with_reducible exact Calls.quiet_of_same (HH.out _)))
  go_wp2
  go_ret
  exact ⟨rfl, _, rfl⟩

theorem run_at {K : Nat} {l : List UInt8} {k : Nat} (hK : K < 256) (hk : k ≤ runN K l) : kB K (hdZ (l.drop k)) = decide (k < runN K l) := by
  have T := takeWhile_at (p := fun c => kB K (zOf c)) l k hk
  by_cases hkl : k < l.length
  · have h1 := T.1 hkl
    rw [List.drop_eq_getElem_cons hkl]
    show kB K (zOf l[k]) = _
    by_cases hk2 : k < runN K l
    · rw [decide_eq_true hk2]; exact h1.2 hk2
    · rw [decide_eq_false hk2]
      cases hh : kB K (zOf l[k])
      · rfl
      · exact absurd (h1.1 hh) hk2
  · have hle := run_le K l
    rw [List.drop_of_length_le (by omega)]
    show kB K 10 = _
    rw [kB_lf K hK, decide_eq_false (by omega)]

set_option maxRecDepth 10000 in
theorem skip_nat (h : RD w rb s a ln lv) (K : Nat) (hK : K < 256) (hl : s.size ≤ 8796093022208) (ha : a ≤ s.size) : Calls Tryz.prog 54 #[.pointer (some ⟨rb, 0, none⟩), .int .u8 K] w fun e w' => e = .returned (.tuple #[]) ∧ RD w' rb s (a + runN K (Ln s a)) ln lv ∧ TR rb w w' := by
  obtain ⟨r, HR⟩ : ∃ r, Hid (runN K (Ln s a) = r) := ⟨_, ⟨rfl⟩⟩
  have hle := run_le K (Ln s a)
  have htop := Ln_top s r a (by rw [← HR.out]; exact hle) ha
  rw [HR.out] at hle ⊢
  have HI : Hid (∀ k, k ≤ r → ∀ W, RD W rb s (a + k) ln lv → Calls Tryz.prog 76 #[.pointer (some ⟨rb, 0, none⟩), .int .u8 K] W fun e w' => e = .returned (.bool (decide (k < r))) ∧ ∃ m, w' = W.drewN m) := ⟨fun k hk W hW => by
    have := is_any hW K
    rw [Ln_drop s k a (by omega), run_at hK (by rw [HR.out]; exact hk), HR.out] at this
    exact this⟩
  have H0 : Hid _ := ⟨h⟩
  clear h hle
  go_enter Tryz.func54, Tryz.ntmps54
  go_wp2_with fail
  go_loopw [] (fun wr => ∃ k : Nat, k ≤ r ∧ Hid (RD wr rb s (a + k) ln lv ∧ TR rb w wr)) (fun wr => a + r - atOf wr rb)
  case atStart => exact ⟨0, by omega, ⟨H0.out, TR.self _ _⟩⟩
  case round =>
    obtain ⟨k, hk, HW⟩ := hrel
    obtain ⟨R1, T1⟩ := HW.out
    have HC : Hid _ := ⟨HI.out k hk wr R1⟩
    have c1 := R1.c1
    have z1 := R1.fz 1
    have hme : Hid (atOf wr rb = a + k) := ⟨R1.atOf⟩
    by_cases hkr : k < r
    · rw [decide_eq_true hkr] at HC
      have hw1 : IntKind.i64.wrap (((a + k : Nat) : Int) + 1) = ((a + k : Nat) : Int) + 1 := by rw [IntKind.wrap_i64]; omega
      obtain ⟨q, hq⟩ : ∃ q, a + k = q := ⟨_, rfl⟩
      rw [hq] at c1 hw1
      have HQ : Hid _ := ⟨hq⟩
      clear hq R1 T1
      go_wp2_with (go_at_call 76; (with_reducible refine HC.out.mono ?_); rintro e w' ⟨rfl, m1, hw'⟩; subst hw')
      have R2 := (HW.out.1.drewN m1).setAt ((q : Int) + 1) (a + (k + 1)) (by have := HQ.out; omega)
      have hme2 : Hid _ := ⟨R2.atOf⟩
      go_roundw
      case rel => exact ⟨k + 1, hkr, ⟨R2, (HW.out.2.draw m1).set 1 _⟩⟩
      case measure => rw [hme.out, hme2.out]; omega
    · rw [decide_eq_false hkr] at HC
      have hkk : k = r := by omega
      clear R1 T1 c1 z1 hme
      go_wp2_with (go_at_call 76; (with_reducible refine HC.out.mono ?_); rintro e w' ⟨rfl, m1, hw'⟩; subst hw')
      go_end0
      exact ⟨rfl, by rw [← hkk]; exact HW.out.1.drewN m1, HW.out.2.draw m1⟩

theorem skip_any (h : RD w rb s a ln lv) (K : Nat) (z : Int) (hz : z = (K : Int)) (hK : K < 256) (hl : s.size ≤ 8796093022208) (ha : a ≤ s.size) : Calls Tryz.prog 54 #[.pointer (some ⟨rb, 0, none⟩), .int .u8 z] w fun e w' => e = .returned (.tuple #[]) ∧ RD w' rb s (a + runN K (Ln s a)) ln lv ∧ TR rb w w' := by
  subst hz
  exact skip_nat h K hK hl ha

theorem hd_ten (l : List UInt8) (h : ∀ c ∈ l, ¬ c = 10) (k : Nat) (hk : k ≤ l.length) : (hdZ (l.drop k) != 10) = decide (k < l.length) := by
  by_cases hkl : k < l.length
  · rw [List.drop_eq_getElem_cons hkl, decide_eq_true hkl]
    have := h l[k] (List.getElem_mem hkl)
    show (zOf l[k] != 10) = true
    simp only [bne_iff_ne, ne_eq]
    intro e
    exact this (UInt8.toNat_inj.1 (by show l[k].toNat = 10; have : (l[k].toNat : Int) = 10 := e; omega))
  · rw [List.drop_of_length_le (by omega), decide_eq_false hkl]; rfl
theorem takeWhile_mem_true {p : UInt8 → Bool} : ∀ {l : List UInt8} {c : UInt8}, c ∈ l.takeWhile p → p c = true
  | [], c, h => by cases h
  | d :: r, c, h => by
    cases hd : p d
    · simp [List.takeWhile_cons, hd] at h
    · simp only [List.takeWhile_cons, hd, if_true, List.mem_cons] at h
      rcases h with h | h
      · rw [h]; exact hd
      · exact takeWhile_mem_true h
theorem Ln_ten (s : ByteArray) (a : Nat) : ∀ c ∈ Ln s a, ¬ c = 10 := by
  intro c hc
  have := takeWhile_mem_true hc
  simpa using this

set_option maxRecDepth 10000 in
theorem skipLine_any (h : RD w rb s a ln lv) (hl : s.size ≤ 8796093022208) (ha : a ≤ s.size) : Calls Tryz.prog 56 #[.pointer (some ⟨rb, 0, none⟩)] w fun e w' => e = .returned (.tuple #[]) ∧ RD w' rb s (a + (Ln s a).length) ln lv ∧ TR rb w w' := by
  obtain ⟨r, HR⟩ : ∃ r, Hid ((Ln s a).length = r) := ⟨_, ⟨rfl⟩⟩
  have htop := Ln_top s r a (by rw [← HR.out]; exact Nat.le_refl _) ha
  have HI : Hid (∀ k, k ≤ r → ∀ W, RD W rb s (a + k) ln lv → ∃ z : Int, (z != 10) = decide (k < r) ∧ Calls Tryz.prog 55 #[.pointer (some ⟨rb, 0, none⟩)] W fun e w' => e = .returned (.int .u8 z) ∧ ∃ m, w' = W.drewN m) := ⟨fun k hk W hW => by
    have := peek_any hW
    rw [Ln_drop s k a (by rw [HR.out]; exact hk)] at this
    exact ⟨_, by rw [hd_ten _ (Ln_ten s a) k (by rw [HR.out]; exact hk), HR.out], this⟩⟩
  rw [HR.out]
  have H0 : Hid _ := ⟨h⟩
  clear h
  go_enter Tryz.func56, Tryz.ntmps56
  go_wp2_with fail
  go_loopw [] (fun wr => ∃ k : Nat, k ≤ r ∧ Hid (RD wr rb s (a + k) ln lv ∧ TR rb w wr)) (fun wr => a + r - atOf wr rb)
  case atStart => exact ⟨0, by omega, ⟨H0.out, TR.self _ _⟩⟩
  case round =>
    obtain ⟨k, hk, HW⟩ := hrel
    obtain ⟨R1, T1⟩ := HW.out
    obtain ⟨z, hz, hc⟩ := HI.out k hk wr R1
    have HC : Hid _ := ⟨hc⟩
    have c1 := R1.c1
    have z1 := R1.fz 1
    have hme : Hid (atOf wr rb = a + k) := ⟨R1.atOf⟩
    clear hc
    by_cases hkr : k < r
    · rw [decide_eq_true hkr] at hz
      have hw1 : IntKind.i64.wrap (((a + k : Nat) : Int) + 1) = ((a + k : Nat) : Int) + 1 := by rw [IntKind.wrap_i64]; omega
      obtain ⟨q, hq⟩ : ∃ q, a + k = q := ⟨_, rfl⟩
      rw [hq] at c1 hw1
      have HQ : Hid _ := ⟨hq⟩
      clear hq R1 T1
      go_wp2_with (go_at_call 55; (with_reducible refine HC.out.mono ?_); rintro e w' ⟨rfl, m1, hw'⟩; subst hw')
      have R2 := (HW.out.1.drewN m1).setAt ((q : Int) + 1) (a + (k + 1)) (by have := HQ.out; omega)
      have hme2 : Hid _ := ⟨R2.atOf⟩
      go_roundw
      case rel => exact ⟨k + 1, hkr, ⟨R2, (HW.out.2.draw m1).set 1 _⟩⟩
      case measure => rw [hme.out, hme2.out]; omega
    · rw [decide_eq_false hkr] at hz
      have hkk : k = r := by omega
      clear R1 T1 c1 z1 hme
      go_wp2_with (go_at_call 55; (with_reducible refine HC.out.mono ?_); rintro e w' ⟨rfl, m1, hw'⟩; subst hw')
      go_end0
      exact ⟨rfl, by rw [← hkk]; exact HW.out.1.drewN m1, HW.out.2.draw m1⟩

theorem since_any (h : RD w rb s a ln lv) (f : Nat) (hf : f ≤ a) (ha : a ≤ s.size) (hl : s.size ≤ 8796093022208) : Calls Tryz.prog 94 #[.pointer (some ⟨rb, 0, none⟩), .int .i64 f] w fun e w' => e = .returned (.string (s.extract f a)) ∧ Below w.heap.size w w' := by
  have HR : Hid _ := ⟨h⟩
  have hs : (s.extract f a).size ≤ 281474976710656 := by rw [ByteArray.size_extract]; omega
  have HC : Hid _ := ⟨fun w => sclone_any (s.extract f a) w hs⟩
  have i1 : (f : Int) ≤ (a : Int) := by omega
  have i2 : (a : Int) ≤ (s.size : Int) := by omega
  have i0 : (0 : Int) ≤ (f : Int) := by omega
  have i3 : (0 : Int) ≤ (a : Int) := by omega
  clear h hs
  go_enter Tryz.func94, Tryz.ntmps94
  go_wp2
  have c0 := HR.out.drew.c0
  have c1 := HR.out.drew.c1
  go_region_held3 (fun v' => v'.cell? ⟨rb, 0, none⟩ = some (.string s) ∧ v'.cell? ⟨rb, 1, none⟩ = some (.int .i64 a))
    ((refine ⟨?_, ?_⟩) <;> (with_reducible assumption))
    ((go_at_call 110; (with_reducible refine (HC.out _).mono ?_); rintro e u ⟨rfl, hu⟩; have x0 := (HR.out.drew.below hu).c0; have x1 := (HR.out.drew.below hu).c1))
  go_wp2
  go_ret
  exact ⟨rfl, (Below.refl _ _).drew.trans hu⟩

theorem isShown_any (z : Int) (w : World) : Calls Tryz.prog 98 #[.int .u8 z] w fun e w' => e = .returned (.bool (decide (32 < z) && decide (z ≤ 126))) ∧ w' = w := by
  by_cases h1 : 32 < z
  · by_cases h2 : z ≤ 126
    · rw [decide_eq_true h1, decide_eq_true h2]
      go_enter Tryz.func98, Tryz.ntmps98
      go_wp2
      go_ret
      exact ⟨rfl, rfl⟩
    · rw [decide_eq_true h1, decide_eq_false h2]
      go_enter Tryz.func98, Tryz.ntmps98
      go_wp2
      go_ret
      exact ⟨rfl, rfl⟩
  · rw [decide_eq_false h1]
    go_enter Tryz.func98, Tryz.ntmps98
    go_wp2
    go_ret
    exact ⟨rfl, rfl⟩
end
end Go.Proofs.YtljmbgflcidokaaGreatDoor

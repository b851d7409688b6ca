/- The program's tokens: registers, signs, bytes between quotes. -/
import Derived.Test.YtljmbgflcidokaaGreatDoorQxT
namespace Go.Proofs.YtljmbgflcidokaaGreatDoor
open Go.ChangeShapes Go.WideShapes Go.ChangeAt Go.RowKit
set_option linter.unusedVariables false
set_option linter.unusedSimpArgs false
section
variable {w w1 w2 : World} {rb : Nat} {s : ByteArray} {a : Nat} {ln : Int} {lv : Value}

theorem reg_no {l : List UInt8} (h : kB 2 (hdZ l) = false) : regN l = 0 := by
  cases l with
  | nil => rfl
  | cons c r =>
    have h1 : kB 2 (zOf c) = false := h
    rw [kB_let] at h1
    show (if isLet c = true then _ else 0) = 0
    rw [if_neg (by rw [h1]; simp)]
theorem reg_yes {l : List UInt8} (h : kB 2 (hdZ l) = true) : runN 6 l = regN l ∧ ¬ regN l = 0 := by
  cases l with
  | nil => rw [show hdZ [] = 10 from rfl, kB_lf 2 (by omega)] at h; cases h
  | cons c r =>
    have h1 : kB 2 (zOf c) = true := h
    rw [kB_let] at h1
    have h2 : regN (c :: r) = 1 + (r.takeWhile fun c => isLet c || isDig c).length := by
      show (if isLet c = true then _ else 0) = _
      rw [if_pos h1]
    rw [run_eq 6 (fun c => isLet c || isDig c) kB_reg, h2, List.takeWhile_cons]
    simp only [h1, Bool.true_or, if_true, List.length_cons]
    omega

set_option maxRecDepth 10000 in
theorem register_any (h : RD w rb s a ln lv) (hl : s.size ≤ 8796093022208) (ha : a ≤ s.size) : Calls Tryz.prog 81 #[.pointer (some ⟨rb, 0, none⟩)] w fun e w' => TokE (if regN (Ln s a) = 0 then none else some (⟨5, 0, (Ln s a).take (regN (Ln s a))⟩, regN (Ln s a))) rb s a ln lv w e w' := by
  have HI : Hid _ := ⟨is_t (h.alloc tokZP) 2 2 rfl⟩
  have HR : Hid _ := ⟨h⟩
  have hne := h.lt
  cases hb : kB 2 (hdZ (Ln s a))
  · rw [hb] at HI
    rw [if_pos (reg_no hb)]
    clear h hb
    go_enter Tryz.func81, Tryz.ntmps81
    go_wp2_with (go_at_call 76; (with_reducible refine HI.out.mono ?_); rintro e w1 ⟨rfl, R1, T1⟩; have HT : Hid _ := ⟨T1⟩; have HR1 : Hid _ := ⟨R1⟩; obtain ⟨d0, d1, d2, d3, fz⟩ := TBP.of HR.out T1; have f0 := fz 0; have f1 := fz 1; have f2 := fz 2; have f3 := fz 3; clear fz R1 T1)
    refine bodyPost_ret (resS_register _ w1 w.heap.size _ _ _ _ rfl (TBP.of HR.out HT.out)) rfl ?_
    exact ⟨_, _, _, _, _, rfl, HR1.out.set4 hne _ _ _ _, TR.set4 HT.out _ _ _ _⟩
  · rw [hb] at HI
    obtain ⟨hr, hn0⟩ := reg_yes hb
    rw [if_neg hn0]
    have HS : Hid (∀ W, RD W rb s a ln lv → Calls Tryz.prog 54 #[.pointer (some ⟨rb, 0, none⟩), .int .u8 6] W fun e w' => e = .returned (.tuple #[]) ∧ RD w' rb s (a + regN (Ln s a)) ln lv ∧ TR rb W w') := ⟨fun W hW => by
      have := skip_any hW 6 6 rfl (by omega) hl ha
      rw [hr] at this
      exact this⟩
    have hle := run_le 6 (Ln s a)
    have hex := Ln_sub hle
    rw [hr] at hle hex
    have htop := Ln_top s _ a hle ha
    have HC : Hid (∀ W, RD W rb s (a + regN (Ln s a)) ln lv → Calls Tryz.prog 94 #[.pointer (some ⟨rb, 0, none⟩), .int .i64 a] W fun e w' => e = .returned (.string (St ((Ln s a).take (regN (Ln s a))))) ∧ RD w' rb s (a + regN (Ln s a)) ln lv ∧ TR rb W w') := ⟨fun W hW => by
      have := since_t hW a (by omega) htop hl
      rw [hex] at this
      exact this⟩
    generalize (Ln s a).take (regN (Ln s a)) = T at *
    generalize regN (Ln s a) = n at *
    obtain ⟨q, hq⟩ : ∃ q, a + n = q := ⟨_, rfl⟩
    rw [hq] at HS HC htop
    have HQ : Hid _ := ⟨hq⟩
    clear h hle hex hq hb hr
    go_enter Tryz.func81, Tryz.ntmps81
    go_wp2_with (first
      | (go_at_call 76; (with_reducible refine HI.out.mono ?_); rintro e w0 ⟨rfl, R0, T0⟩; have g1 := R0.c1; have HT0 : Hid _ := ⟨T0⟩; have HR0 : Hid _ := ⟨R0⟩; clear R0 T0)
      | (go_at_call 54; (with_reducible refine (HS.out _ HR0.out).mono ?_); rintro e w1 ⟨rfl, R1, T1⟩; have e1 := R1.c1; have HT : Hid _ := ⟨HT0.out.trans T1⟩; have HR1 : Hid _ := ⟨R1⟩; clear R1 T1)
      | (go_at_call 94; (with_reducible refine (HC.out _ HR1.out).mono ?_); rintro e w2 ⟨rfl, R2, T2⟩; have HT2 : Hid _ := ⟨HT.out.trans T2⟩; have HR2 : Hid _ := ⟨R2⟩; obtain ⟨d0, d1, d2, d3, fz⟩ := TBP.of HR.out (HT.out.trans T2); have f0 := fz 0; have f1 := fz 1; have f2 := fz 2; have f3 := fz 3; clear fz R2 T2))
    refine bodyPost_ret (resS_register _ w2 w.heap.size _ _ _ _ rfl (TBP.of HR.out HT2.out)) rfl ?_
    exact ⟨rfl, by rw [HQ.out]; exact HR2.out.set4 hne _ _ _ _, TR.set4 HT2.out _ _ _ _⟩

theorem next_t (h : RD w rb s a ln lv) (hl : s.size ≤ 8796093022208) (ha : a ≤ s.size) {z : Int} (hz : hdZ (Ln s a) = z) : Calls Tryz.prog 97 #[.pointer (some ⟨rb, 0, none⟩)] w fun e w' => e = .returned (.int .u8 z) ∧ RD w' rb s (a + 1) ln lv ∧ TR rb w w' := by
  rw [← hz]; exact next_any h (by omega)
theorem take_yes (h : RD w rb s a ln lv) (ha : a ≤ 9007199254740992) {b : Int} (hz : hdZ (Ln s a) = b) : Calls Tryz.prog 57 #[.pointer (some ⟨rb, 0, none⟩), .int .u8 b] w fun e w' => e = .returned (.bool true) ∧ RD w' rb s (a + 1) ln lv ∧ TR rb w w' := by
  have := take_any h ha b
  rw [show (hdZ (Ln s a) == b) = true by rw [hz]; simp, if_pos rfl] at this
  exact this
theorem take_no (h : RD w rb s a ln lv) (ha : a ≤ 9007199254740992) {b : Int} (hz : ¬ hdZ (Ln s a) = b) : Calls Tryz.prog 57 #[.pointer (some ⟨rb, 0, none⟩), .int .u8 b] w fun e w' => e = .returned (.bool false) ∧ RD w' rb s a ln lv ∧ TR rb w w' := by
  have := take_any h ha b
  rw [show (hdZ (Ln s a) == b) = false by simpa using hz, if_neg (by simp)] at this
  exact this
theorem has_t (h : RD w rb s a ln lv) (K : Nat) (k z : Int) (hk : k = (K : Int)) (h0 : 0 ≤ z) (h1 : z < 256) {b : Bool} (hb : kB K z = b) : Calls Tryz.prog 93 #[.pointer (some ⟨rb, 2, none⟩), .int .u8 z, .int .u8 k] w fun e w' => e = .returned (.bool b) ∧ w' = w := by
  obtain ⟨n, rfl⟩ : ∃ n : Nat, z = n := ⟨z.toNat, by omega⟩
  subst hk; subst hb
  exact has_any h K n (by omega)

theorem sign_two {c : UInt8} {r : List UInt8} (h : c = 60 ∨ c = 62) (hr : hdZ r = zOf c) : signN (c :: r) = 2 := by
  cases r with
  | nil => rcases h with rfl | rfl <;> exact absurd hr (by decide)
  | cons d r =>
    have hd : d = c := UInt8.toNat_inj.1 (by have : (d.toNat : Int) = (c.toNat : Int) := hr; omega)
    subst hd
    unfold signN
    rcases h with rfl | rfl <;> rfl
theorem sign_one {c : UInt8} {r : List UInt8} (h : ¬ ((c = 60 ∨ c = 62) ∧ hdZ r = zOf c)) : signN (c :: r) = if signs.contains c = true then 1 else 0 := by
  unfold signN
  have : ¬ ((c = 60 ∧ r.head? = some 60) ∨ (c = 62 ∧ r.head? = some 62)) := by
    rintro (⟨rfl, h2⟩ | ⟨rfl, h2⟩)
    · cases r with
      | nil => cases h2
      | cons d r => cases h2; exact h ⟨.inl rfl, rfl⟩
    · cases r with
      | nil => cases h2
      | cons d r => cases h2; exact h ⟨.inr rfl, rfl⟩
  simp only
  rw [if_neg this]

theorem sign_pure (c : UInt8) (r : List UInt8) : (if signN (c :: r) = 0 then none else some ((⟨4, 0, (c :: r).take (signN (c :: r))⟩ : Tok), signN (c :: r))) = if (zOf c = 60 ∨ zOf c = 62) ∧ hdZ r = zOf c then some (⟨4, 0, (c :: r).take 2⟩, 2) else if kB 32 (zOf c) = true then some (⟨4, 0, (c :: r).take 1⟩, 1) else none := by
  have hcz : (zOf c = 60 ∨ zOf c = 62) ↔ (c = 60 ∨ c = 62) := by
    constructor
    · rintro (e | e)
      · exact .inl (UInt8.toNat_inj.1 (by have : (c.toNat : Int) = 60 := e; show c.toNat = 60; omega))
      · exact .inr (UInt8.toNat_inj.1 (by have : (c.toNat : Int) = 62 := e; show c.toNat = 62; omega))
    · rintro (rfl | rfl)
      · exact .inl rfl
      · exact .inr rfl
  by_cases ht : (c = 60 ∨ c = 62) ∧ hdZ r = zOf c
  · rw [sign_two ht.1 ht.2, if_neg (by omega), if_pos ⟨hcz.2 ht.1, ht.2⟩]
  · rw [sign_one ht, if_neg (c := (zOf c = 60 ∨ zOf c = 62) ∧ hdZ r = zOf c) (fun e => ht ⟨hcz.1 e.1, e.2⟩), kB_sign]
    cases signs.contains c <;> simp

/-- What sign answers once its first byte is read, by letters: b6, b2: it is < or >; tw: the same stands behind it; hs: it is a sign by itself. -/
theorem sign_gen (h : RD w rb s a ln lv) (hl : s.size ≤ 8796093022208) (ha : a ≤ s.size) (z : Int) (hz : hdZ (Ln s a) = z) (M : Option (Tok × Nat))
    (hM : M = if (z = 60 ∨ z = 62) ∧ hdZ (Ln s (a + 1)) = z then some (⟨4, 0, (Ln s a).take 2⟩, 2) else if kB 32 z = true then some (⟨4, 0, (Ln s a).take 1⟩, 1) else none)
    (e1 : kB 32 z = true → s.extract a (a + 1) = St ((Ln s a).take 1) ∧ a + 1 ≤ s.size) (e2 : hdZ (Ln s (a + 1)) = z → (z = 60 ∨ z = 62) → s.extract a (a + 2) = St ((Ln s a).take 2) ∧ a + 2 ≤ s.size) :
    Calls Tryz.prog 82 #[.pointer (some ⟨rb, 0, none⟩)] w fun e w' => TokE M rb s a ln lv w e w' := by
  have hzb := hd_byte (Ln s a)
  rw [hz] at hzb
  have HN : Hid _ := ⟨next_t (h.alloc tokZP) hl ha hz⟩
  have HR : Hid _ := ⟨h⟩
  have hne := h.lt
  have c1 := h.c1
  have hlt := h.lt
  by_cases hlg : z = 60 ∨ z = 62
  · by_cases htw : hdZ (Ln s (a + 1)) = z
    · rw [if_pos ⟨hlg, htw⟩] at hM
      subst hM
      obtain ⟨e3, e4⟩ := e2 htw hlg
      have HK : Hid (∀ W, RD W rb s (a + 1) ln lv → Calls Tryz.prog 57 #[.pointer (some ⟨rb, 0, none⟩), .int .u8 z] W fun e w' => e = .returned (.bool true) ∧ RD w' rb s (a + 2) ln lv ∧ TR rb W w') := ⟨fun W hW => take_yes hW (by omega) htw⟩
      have HC : Hid (∀ W, RD W rb s (a + 2) ln lv → Calls Tryz.prog 94 #[.pointer (some ⟨rb, 0, none⟩), .int .i64 a] W fun e w' => e = .returned (.string (St ((Ln s a).take 2))) ∧ RD w' rb s (a + 2) ln lv ∧ TR rb W w') := ⟨fun W hW => by
        have := since_t hW a (by omega) e4 hl
        rw [e3] at this
        exact this⟩
      generalize (Ln s a).take 2 = T at *
      clear h hz hzb e1 e2 e3 htw
      cases h60 : (z == 60)
      · have h62 : (z == 62) = true := by
          rcases hlg with rfl | rfl
          · simp at h60
          · rfl
        clear hlg
        go_enter Tryz.func82, Tryz.ntmps82
        go_wp2_with (first
          | (go_at_call 97; (with_reducible refine HN.out.mono ?_); rintro e w0 ⟨rfl, R0, T0⟩; have HT0 : Hid _ := ⟨T0⟩; have HR0 : Hid _ := ⟨R0⟩; clear R0 T0)
          | (go_at_call 57; (with_reducible refine (HK.out _ HR0.out).mono ?_); rintro e w1 ⟨rfl, R1, T1⟩; have HT : Hid _ := ⟨HT0.out.trans T1⟩; have HR1 : Hid _ := ⟨R1⟩; clear R1 T1)
          | (go_at_call 94; (with_reducible refine (HC.out _ HR1.out).mono ?_); rintro e w2 ⟨rfl, R2, T2⟩; have HT2 : Hid _ := ⟨HT.out.trans T2⟩; have HR2 : Hid _ := ⟨R2⟩; obtain ⟨d0, d1, d2, d3, fz⟩ := TBP.of HR.out (HT.out.trans T2); have f0 := fz 0; have f1 := fz 1; have f2 := fz 2; have f3 := fz 3; clear fz R2 T2))
        refine bodyPost_ret (resS_sign _ w2 w.heap.size _ _ _ _ rfl (TBP.of HR.out HT2.out)) rfl ?_
        exact ⟨rfl, HR2.out.set4 hne _ _ _ _, TR.set4 HT2.out _ _ _ _⟩
      · clear hlg
        go_enter Tryz.func82, Tryz.ntmps82
        go_wp2_with (first
          | (go_at_call 97; (with_reducible refine HN.out.mono ?_); rintro e w0 ⟨rfl, R0, T0⟩; have HT0 : Hid _ := ⟨T0⟩; have HR0 : Hid _ := ⟨R0⟩; clear R0 T0)
          | (go_at_call 57; (with_reducible refine (HK.out _ HR0.out).mono ?_); rintro e w1 ⟨rfl, R1, T1⟩; have HT : Hid _ := ⟨HT0.out.trans T1⟩; have HR1 : Hid _ := ⟨R1⟩; clear R1 T1)
          | (go_at_call 94; (with_reducible refine (HC.out _ HR1.out).mono ?_); rintro e w2 ⟨rfl, R2, T2⟩; have HT2 : Hid _ := ⟨HT.out.trans T2⟩; have HR2 : Hid _ := ⟨R2⟩; obtain ⟨d0, d1, d2, d3, fz⟩ := TBP.of HR.out (HT.out.trans T2); have f0 := fz 0; have f1 := fz 1; have f2 := fz 2; have f3 := fz 3; clear fz R2 T2))
        refine bodyPost_ret (resS_sign _ w2 w.heap.size _ _ _ _ rfl (TBP.of HR.out HT2.out)) rfl ?_
        exact ⟨rfl, HR2.out.set4 hne _ _ _ _, TR.set4 HT2.out _ _ _ _⟩
    · rw [if_neg (fun h => htw h.2)] at hM
      have hk32 : kB 32 z = false := by rcases hlg with rfl | rfl <;> decide +kernel
      rw [if_neg (by rw [hk32]; simp)] at hM
      subst hM
      have HK : Hid (∀ W, RD W rb s (a + 1) ln lv → Calls Tryz.prog 57 #[.pointer (some ⟨rb, 0, none⟩), .int .u8 z] W fun e w' => e = .returned (.bool false) ∧ RD w' rb s (a + 1) ln lv ∧ TR rb W w') := ⟨fun W hW => take_no hW (by omega) htw⟩
      have HH : Hid (∀ W, RD W rb s (a + 1) ln lv → Calls Tryz.prog 93 #[.pointer (some ⟨rb, 2, none⟩), .int .u8 z, .int .u8 32] W fun e w' => e = .returned (.bool false) ∧ w' = W) := ⟨fun W hW => has_t hW 32 32 z rfl hzb.1 hzb.2 hk32⟩
      clear h hz hzb e1 e2 htw hk32
      cases h60 : (z == 60)
      · have h62 : (z == 62) = true := by
          rcases hlg with rfl | rfl
          · simp at h60
          · rfl
        clear hlg
        go_enter Tryz.func82, Tryz.ntmps82
        go_wp2_with (first
          | (go_at_call 97; (with_reducible refine HN.out.mono ?_); rintro e w0 ⟨rfl, R0, T0⟩; have HT0 : Hid _ := ⟨T0⟩; have HR0 : Hid _ := ⟨R0⟩; clear R0 T0)
          | (go_at_call 57; (with_reducible refine (HK.out _ HR0.out).mono ?_); rintro e w2 ⟨rfl, R2, T2⟩; have HT2 : Hid _ := ⟨HT0.out.trans T2⟩; have HR2 : Hid _ := ⟨R2⟩; obtain ⟨d0, d1, d2, d3, fz⟩ := TBP.of HR.out (HT0.out.trans T2); have f0 := fz 0; have f1 := fz 1; have f2 := fz 2; have f3 := fz 3; clear fz R2 T2)
          | (go_at_call 93; (with_reducible refine (HH.out _ HR2.out).mono ?_); rintro e w' ⟨rfl, hw'⟩; subst w'))
        refine bodyPost_ret (resS_sign _ w2 w.heap.size _ _ _ _ rfl (TBP.of HR.out HT2.out)) rfl ?_
        exact ⟨_, _, _, _, _, rfl, HR2.out.set4 hne _ _ _ _, TR.set4 HT2.out _ _ _ _⟩
      · clear hlg
        go_enter Tryz.func82, Tryz.ntmps82
        go_wp2_with (first
          | (go_at_call 97; (with_reducible refine HN.out.mono ?_); rintro e w0 ⟨rfl, R0, T0⟩; have HT0 : Hid _ := ⟨T0⟩; have HR0 : Hid _ := ⟨R0⟩; clear R0 T0)
          | (go_at_call 57; (with_reducible refine (HK.out _ HR0.out).mono ?_); rintro e w2 ⟨rfl, R2, T2⟩; have HT2 : Hid _ := ⟨HT0.out.trans T2⟩; have HR2 : Hid _ := ⟨R2⟩; obtain ⟨d0, d1, d2, d3, fz⟩ := TBP.of HR.out (HT0.out.trans T2); have f0 := fz 0; have f1 := fz 1; have f2 := fz 2; have f3 := fz 3; clear fz R2 T2)
          | (go_at_call 93; (with_reducible refine (HH.out _ HR2.out).mono ?_); rintro e w' ⟨rfl, hw'⟩; subst w'))
        refine bodyPost_ret (resS_sign _ w2 w.heap.size _ _ _ _ rfl (TBP.of HR.out HT2.out)) rfl ?_
        exact ⟨_, _, _, _, _, rfl, HR2.out.set4 hne _ _ _ _, TR.set4 HT2.out _ _ _ _⟩
  · have h60 : (z == 60) = false := by simpa using fun e => hlg (.inl e)
    have h62 : (z == 62) = false := by simpa using fun e => hlg (.inr e)
    rw [if_neg (fun h => hlg h.1)] at hM
    cases hk32 : kB 32 z
    · rw [if_neg (by rw [hk32]; simp)] at hM
      subst hM
      have HH : Hid (∀ W, RD W rb s (a + 1) ln lv → Calls Tryz.prog 93 #[.pointer (some ⟨rb, 2, none⟩), .int .u8 z, .int .u8 32] W fun e w' => e = .returned (.bool false) ∧ w' = W) := ⟨fun W hW => has_t hW 32 32 z rfl hzb.1 hzb.2 hk32⟩
      clear h hz hzb e1 e2 hk32 hlg
      go_enter Tryz.func82, Tryz.ntmps82
      go_wp2_with (first
        | (go_at_call 97; (with_reducible refine HN.out.mono ?_); rintro e w2 ⟨rfl, R2, T2⟩; have HT2 : Hid _ := ⟨T2⟩; have HR2 : Hid _ := ⟨R2⟩; obtain ⟨d0, d1, d2, d3, fz⟩ := TBP.of HR.out T2; have f0 := fz 0; have f1 := fz 1; have f2 := fz 2; have f3 := fz 3; clear fz R2 T2)
        | (go_at_call 93; (with_reducible refine (HH.out _ HR2.out).mono ?_); rintro e w' ⟨rfl, hw'⟩; subst w'))
      refine bodyPost_ret (resS_sign _ w2 w.heap.size _ _ _ _ rfl (TBP.of HR.out HT2.out)) rfl ?_
      exact ⟨_, _, _, _, _, rfl, HR2.out.set4 hne _ _ _ _, TR.set4 HT2.out _ _ _ _⟩
    · rw [if_pos hk32] at hM
      subst hM
      have HH : Hid (∀ W, RD W rb s (a + 1) ln lv → Calls Tryz.prog 93 #[.pointer (some ⟨rb, 2, none⟩), .int .u8 z, .int .u8 32] W fun e w' => e = .returned (.bool true) ∧ w' = W) := ⟨fun W hW => has_t hW 32 32 z rfl hzb.1 hzb.2 hk32⟩
      have HC : Hid (∀ W, RD W rb s (a + 1) ln lv → Calls Tryz.prog 94 #[.pointer (some ⟨rb, 0, none⟩), .int .i64 a] W fun e w' => e = .returned (.string (St ((Ln s a).take 1))) ∧ RD w' rb s (a + 1) ln lv ∧ TR rb W w') := ⟨fun W hW => by
        have := since_t hW a (by omega) (e1 hk32).2 hl
        rw [(e1 hk32).1] at this
        exact this⟩
      generalize (Ln s a).take 1 = T at *
      clear h hz hzb e1 e2 hk32 hlg
      go_enter Tryz.func82, Tryz.ntmps82
      go_wp2_with (first
        | (go_at_call 97; (with_reducible refine HN.out.mono ?_); rintro e w1 ⟨rfl, R1, T1⟩; have HT : Hid _ := ⟨T1⟩; have HR1 : Hid _ := ⟨R1⟩; clear R1 T1)
        | (go_at_call 93; (with_reducible refine (HH.out _ HR1.out).mono ?_); rintro e w' ⟨rfl, hw'⟩; subst w')
        | (go_at_call 94; (with_reducible refine (HC.out _ HR1.out).mono ?_); rintro e w2 ⟨rfl, R2, T2⟩; have HT2 : Hid _ := ⟨HT.out.trans T2⟩; have HR2 : Hid _ := ⟨R2⟩; obtain ⟨d0, d1, d2, d3, fz⟩ := TBP.of HR.out (HT.out.trans T2); have f0 := fz 0; have f1 := fz 1; have f2 := fz 2; have f3 := fz 3; clear fz R2 T2))
      refine bodyPost_ret (resS_sign _ w2 w.heap.size _ _ _ _ rfl (TBP.of HR.out HT2.out)) rfl ?_
      exact ⟨rfl, HR2.out.set4 hne _ _ _ _, TR.set4 HT2.out _ _ _ _⟩

theorem sign_any (h : RD w rb s a ln lv) (hl : s.size ≤ 8796093022208) (ha : a ≤ s.size) : Calls Tryz.prog 82 #[.pointer (some ⟨rb, 0, none⟩)] w fun e w' => TokE (if signN (Ln s a) = 0 then none else some (⟨4, 0, (Ln s a).take (signN (Ln s a))⟩, signN (Ln s a))) rb s a ln lv w e w' := by
  cases hL : Ln s a with
  | nil =>
    have h32 := kB_lf 32 (by omega)
    refine sign_gen h hl ha 10 (by rw [hL]; rfl) _ ?_ (fun e => by rw [h32] at e; cases e) (fun _ e => absurd e (by decide))
    rw [if_neg (c := (10 = 60 ∨ 10 = 62) ∧ _) (fun e => absurd e.1 (by decide)), h32]
    rfl
  | cons c r =>
    obtain ⟨h1, h2, h3⟩ := Ln_cons hL
    have hx : ∀ n, n ≤ (c :: r).length → s.extract a (a + n) = St ((c :: r).take n) ∧ a + n ≤ s.size := fun n hn => by
      have := Ln_sub (s := s) (a := a) (n := n) (by rw [hL]; exact hn)
      rw [hL] at this
      exact ⟨this, Ln_top s n a (by rw [hL]; exact hn) ha⟩
    refine sign_gen h hl ha (zOf c) (by rw [hL]; rfl) _ ?_ (fun e => by rw [hL]; exact hx 1 (by simp)) (fun e he => ?_)
    · rw [h3, hL]
      exact sign_pure c r
    · rw [hL]
      refine hx 2 ?_
      rw [h3] at e
      cases r with
      | nil =>
        have e' : (10 : Int) = zOf c := e
        omega
      | cons d r => simp

set_option maxRecDepth 10000 in
theorem byteNumber_any (h : RD w rb s a ln lv) (hl : s.size ≤ 8796093022208) (ha : a ≤ s.size) : Calls Tryz.prog 79 #[.pointer (some ⟨rb, 0, none⟩)] w fun e w' => TokE ((numM (39 :: Ln s a)).map fun p => (⟨2, wrap64 p.1, []⟩, p.2 - 1)) rb s a ln lv w e w' := by
  have hzb := hd_byte (Ln s a)
  obtain ⟨z, hz⟩ : ∃ z, hdZ (Ln s a) = z := ⟨_, rfl⟩
  rw [hz] at hzb
  have HN : Hid _ := ⟨next_t (h.alloc tokZP) hl ha hz⟩
  have HR : Hid _ := ⟨h⟩
  have hne := h.lt
  have HSh : Hid _ := ⟨fun W => isShown_any z W⟩
  cases hsh : (decide (32 < z) && decide (z ≤ 126))
  · rw [hsh] at HSh
    have hM : numM (39 :: Ln s a) = none := by
      cases hL : Ln s a with
      | nil => rfl
      | cons d r =>
        rw [hL] at hz
        have hz' : zOf d = z := hz
        cases r with
        | nil => rfl
        | cons e r' =>
          have e0 : numM (39 :: d :: e :: r') = (if 33 ≤ zOf d ∧ zOf d ≤ 126 ∧ e = 39 ∧ (r'.head?.map isIn).getD false = false then some (zOf d, 3) else none) := rfl
          rw [e0, if_neg]
          rintro ⟨g1, g2, _⟩
          rw [hz'] at g1 g2
          rw [decide_eq_true (by omega), decide_eq_true (by omega)] at hsh
          cases hsh
    rw [hM]
    clear h hz hzb hsh hM
    go_enter Tryz.func79, Tryz.ntmps79
    go_wp2_with (first
      | (go_at_call 97; (with_reducible refine HN.out.mono ?_); rintro e w2 ⟨rfl, R2, T2⟩; have HT2 : Hid _ := ⟨T2⟩; have HR2 : Hid _ := ⟨R2⟩; obtain ⟨d0, d1, d2, d3, fz⟩ := TBP.of HR.out T2; have f0 := fz 0; have f1 := fz 1; have f2 := fz 2; have f3 := fz 3; clear fz R2 T2)
      | (go_at_call 98; (with_reducible refine (HSh.out _).mono ?_); rintro e w' ⟨rfl, hw'⟩; subst w'))
    refine bodyPost_ret (resS_byteNumber _ w2 w.heap.size _ _ _ _ rfl (TBP.of HR.out HT2.out)) rfl ?_
    exact ⟨_, _, _, _, _, rfl, HR2.out.set4 hne _ _ _ _, TR.set4 HT2.out _ _ _ _⟩
  · rw [hsh] at HSh
    have hz1 : 33 ≤ z ∧ z ≤ 126 := by simp at hsh; omega
    cases hL : Ln s a with
    | nil => rw [hL] at hz; have : (10 : Int) = z := hz; omega
    | cons d r =>
      rw [hL] at hz
      have hz' : zOf d = z := hz
      obtain ⟨h1, h2, h3⟩ := Ln_cons hL
      by_cases ht : hdZ r = 39
      · have hH : Hid (∀ W, RD W rb s (a + 1) ln lv → Calls Tryz.prog 57 #[.pointer (some ⟨rb, 0, none⟩), .int .u8 39] W fun e w' => e = .returned (.bool true) ∧ RD w' rb s (a + 2) ln lv ∧ TR rb W w') := ⟨fun W hW => take_yes hW (by omega) (by rw [h3]; exact ht)⟩
        cases r with
        | nil => exact absurd ht (by decide)
        | cons e r' =>
          have he : e = 39 := UInt8.toNat_inj.1 (by have : (e.toNat : Int) = 39 := ht; show e.toNat = 39; omega)
          obtain ⟨h4, h5, h6⟩ := Ln_cons h3
          have hM : numM (39 :: d :: e :: r') = if kB 22 (hdZ r') = true then none else some (z, 3) := by
            have e0 : numM (39 :: d :: e :: r') = (if 33 ≤ zOf d ∧ zOf d ≤ 126 ∧ e = 39 ∧ (r'.head?.map isIn).getD false = false then some (zOf d, 3) else none) := rfl
            rw [e0, hz']
            cases r' with
            | nil => rw [if_pos ⟨hz1.1, hz1.2, he, rfl⟩, if_neg (by rw [show hdZ [] = 10 from rfl, kB_lf 22 (by omega)]; simp)]
            | cons x r'' =>
              have hx : kB 22 (hdZ (x :: r'')) = isIn x := kB_in x
              rw [hx]
              cases hi : isIn x
              · rw [if_pos ⟨hz1.1, hz1.2, he, hi⟩, if_neg (by simp)]
              · rw [if_neg (by rintro ⟨_, _, _, g⟩; have : isIn x = false := g; rw [hi] at this; cases this), if_pos rfl]
          have HO : Hid (∀ W, RD W rb s (a + 2) ln lv → Calls Tryz.prog 96 #[.pointer (some ⟨rb, 0, none⟩), .int .i64 z] W fun e w' => TokE (if kB 22 (hdZ r') = true then none else some (⟨2, z, []⟩, 0)) rb s (a + 2) ln lv W e w') := ⟨fun W hW => by
            have := numberOf_any hW z
            rw [show Ln s (a + 2) = r' from h6] at this
            exact this⟩
          rw [hM]
          have hw64 : wrap64 z = z := by unfold wrap64; omega
          generalize kB 22 (hdZ r') = b at *
          clear h hz hzb hsh hM hL h1 h2 h3 h4 h5 h6 ht he
          cases b
          · have HO2 : Hid (∀ W, RD W rb s (a + 2) ln lv → Calls Tryz.prog 96 #[.pointer (some ⟨rb, 0, none⟩), .int .i64 z] W fun e w' => e = .returned (.tuple #[.agg #[.int .i64 2, .int .i64 0, .int .i64 z, .string ⟨#[]⟩], .bool true]) ∧ RD w' rb s (a + 2) ln lv ∧ TR rb W w') := ⟨fun W hW => HO.out W hW⟩
            have HW64 : Hid _ := ⟨hw64⟩
            clear HO hw64
            go_enter Tryz.func79, Tryz.ntmps79
            go_wp2_with (first
              | (go_at_call 97; (with_reducible refine HN.out.mono ?_); rintro e w0 ⟨rfl, R0, T0⟩; have HT0 : Hid _ := ⟨T0⟩; have HR0 : Hid _ := ⟨R0⟩; clear R0 T0)
              | (go_at_call 98; (with_reducible refine (HSh.out _).mono ?_); rintro e w' ⟨rfl, hw'⟩; subst w')
              | (go_at_call 57; (with_reducible refine (hH.out _ HR0.out).mono ?_); rintro e w1 ⟨rfl, R1, T1⟩; have HT : Hid _ := ⟨HT0.out.trans T1⟩; have HR1 : Hid _ := ⟨R1⟩; clear R1 T1)
              | (go_at_call 96; (with_reducible refine (HO2.out _ HR1.out).mono ?_); rintro e w2 ⟨rfl, R2, T2⟩; have HT2 : Hid _ := ⟨HT.out.trans T2⟩; have HR2 : Hid _ := ⟨R2⟩; obtain ⟨d0, d1, d2, d3, fz⟩ := TBP.of HR.out (HT.out.trans T2); have f0 := fz 0; have f1 := fz 1; have f2 := fz 2; have f3 := fz 3; clear fz R2 T2))
            refine bodyPost_ret (resS_byteNumber _ w2 w.heap.size _ _ _ _ rfl (TBP.of HR.out HT2.out)) rfl ?_
            exact ⟨by show _ = Ending.returned (.tuple #[.agg #[.int .i64 2, .int .i64 0, .int .i64 (wrap64 z), .string ⟨#[]⟩], .bool true]); rw [HW64.out]; rfl, HR2.out.set4 hne _ _ _ _, TR.set4 HT2.out _ _ _ _⟩
          · have HO2 : Hid (∀ W, RD W rb s (a + 2) ln lv → Calls Tryz.prog 96 #[.pointer (some ⟨rb, 0, none⟩), .int .i64 z] W fun e w' => ∃ (p q r : Int) (t : ByteArray) (a' : Nat), e = .returned (.tuple #[.agg #[.int .i64 p, .int .i64 q, .int .i64 r, .string t], .bool false]) ∧ RD w' rb s a' ln lv ∧ TR rb W w') := ⟨fun W hW => HO.out W hW⟩
            clear HO hw64
            go_enter Tryz.func79, Tryz.ntmps79
            go_wp2_with (first
              | (go_at_call 97; (with_reducible refine HN.out.mono ?_); rintro e w0 ⟨rfl, R0, T0⟩; have HT0 : Hid _ := ⟨T0⟩; have HR0 : Hid _ := ⟨R0⟩; clear R0 T0)
              | (go_at_call 98; (with_reducible refine (HSh.out _).mono ?_); rintro e w' ⟨rfl, hw'⟩; subst w')
              | (go_at_call 57; (with_reducible refine (hH.out _ HR0.out).mono ?_); rintro e w1 ⟨rfl, R1, T1⟩; have HT : Hid _ := ⟨HT0.out.trans T1⟩; have HR1 : Hid _ := ⟨R1⟩; clear R1 T1)
              | (go_at_call 96; (with_reducible refine (HO2.out _ HR1.out).mono ?_); rintro e w2 ⟨p, q, r, t, a', rfl, R2, T2⟩; have HT2 : Hid _ := ⟨HT.out.trans T2⟩; have HR2 : Hid _ := ⟨R2⟩; obtain ⟨d0, d1, d2, d3, fz⟩ := TBP.of HR.out (HT.out.trans T2); have f0 := fz 0; have f1 := fz 1; have f2 := fz 2; have f3 := fz 3; clear fz R2 T2))
            refine bodyPost_ret (resS_byteNumber _ w2 w.heap.size _ _ _ _ rfl (TBP.of HR.out HT2.out)) rfl ?_
            exact ⟨_, _, _, _, _, rfl, HR2.out.set4 hne _ _ _ _, TR.set4 HT2.out _ _ _ _⟩
      · have hH : Hid (∀ W, RD W rb s (a + 1) ln lv → Calls Tryz.prog 57 #[.pointer (some ⟨rb, 0, none⟩), .int .u8 39] W fun e w' => e = .returned (.bool false) ∧ RD w' rb s (a + 1) ln lv ∧ TR rb W w') := ⟨fun W hW => take_no hW (by omega) (by rw [h3]; exact ht)⟩
        have hM : numM (39 :: d :: r) = none := by
          cases r with
          | nil => rfl
          | cons e r' =>
            have e0 : numM (39 :: d :: e :: r') = (if 33 ≤ zOf d ∧ zOf d ≤ 126 ∧ e = 39 ∧ (r'.head?.map isIn).getD false = false then some (zOf d, 3) else none) := rfl
            rw [e0, if_neg]
            rintro ⟨_, _, rfl, _⟩
            exact ht rfl
        rw [hM]
        clear h hz hzb hsh hM hL h1 h2 h3 ht
        go_enter Tryz.func79, Tryz.ntmps79
        go_wp2_with (first
          | (go_at_call 97; (with_reducible refine HN.out.mono ?_); rintro e w0 ⟨rfl, R0, T0⟩; have HT0 : Hid _ := ⟨T0⟩; have HR0 : Hid _ := ⟨R0⟩; clear R0 T0)
          | (go_at_call 98; (with_reducible refine (HSh.out _).mono ?_); rintro e w' ⟨rfl, hw'⟩; subst w')
          | (go_at_call 57; (with_reducible refine (hH.out _ HR0.out).mono ?_); rintro e w2 ⟨rfl, R2, T2⟩; have HT2 : Hid _ := ⟨HT0.out.trans T2⟩; have HR2 : Hid _ := ⟨R2⟩; obtain ⟨d0, d1, d2, d3, fz⟩ := TBP.of HR.out (HT0.out.trans T2); have f0 := fz 0; have f1 := fz 1; have f2 := fz 2; have f3 := fz 3; clear fz R2 T2))
        refine bodyPost_ret (resS_byteNumber _ w2 w.heap.size _ _ _ _ rfl (TBP.of HR.out HT2.out)) rfl ?_
        exact ⟨_, _, _, _, _, rfl, HR2.out.set4 hne _ _ _ _, TR.set4 HT2.out _ _ _ _⟩
end
end Go.Proofs.YtljmbgflcidokaaGreatDoor

/- The document's Check of any tables, its Check of ops given. -/
import Derived.Test.YtomboebfbipaaaaDoorERGetX
import Derived.Test.YtomboebfbipaaaaDoorETabX
import Derived.Deep.RegionHeld3
namespace Go.Proofs.YtomboebfbipaaaaDoor
open Go.ChangeShapes Go.WideShapes Go.ChangeAt Go.RowKit Go.Maps
set_option linter.unusedVariables false
set_option linter.unusedSimpArgs false

/-- What the document's Check of ops answers. -/
def RCk : Prop := ∀ (W : World) (a1 : Option Addr) (c1 : Nat) (i : List Oq) (a2 : Option Addr) (c2 : Nat) (l : List Oq) (size : Int), i.length ≤ 3992 → l.length ≤ 3992 → 0 ≤ size ∧ size ≤ 1048576 → Oqs W a1 i → Oqs W a2 l →
  Calls Tryd.prog 48 #[.slice a1 i.length c1, .slice a2 l.length c2, .int .i64 size] W fun e w' => e = .returned (.int .i64 (rowsE i l size)) ∧ Below W.heap.size W w'
theorem chk_6 {c : List Ce} {f : List Fe} (h : tooB c f = true) : checkE c f = 6 := by unfold checkE; rw [if_pos h]
theorem chk_140 {c : List Ce} {f : List Fe} (h : tooB c f = false) (h2 : numsB c f = false) : checkE c f = 140 := by unfold checkE; rw [h, h2]; rfl
theorem chk_130 {c : List Ce} {f : List Fe} (h : tooB c f = false) (h2 : numsB c f = true) (h3 : opsB c f = false) : checkE c f = 130 := by unfold checkE; rw [h, h2, h3]; rfl
theorem chk_0 {c : List Ce} {f : List Fe} (h : tooB c f = false) (h2 : numsB c f = true) (h3 : opsB c f = true) : checkE c f = 0 := by unfold checkE; rw [h, h2, h3]; rfl
theorem too_l1 {c : List Ce} {f : List Fe} (h : 4000 < c.length) : tooB c f = true := by unfold tooB; simp [h]
theorem too_l2 {c : List Ce} {f : List Fe} (h : 4000 < f.length) : tooB c f = true := by unfold tooB; simp [h]
/-- What is known of the tables' lengths so far. -/
structure Tl (c : List Ce) (f : List Fe) (k m : Nat) (bl : Bool) : Prop where
  yes : bl = true → tooB c f = true
  no : bl = false → ¬ 4000 < c.length ∧ ¬ 4000 < f.length ∧ (∀ j, j < k → ¬ 3992 < (c.getD j Ce.zero).ini.length) ∧ ∀ j, j < m → ¬ 3992 < (f.getD j Fe.zero).ops.length
theorem Tl.c1 {c : List Ce} {f : List Fe} {k m : Nat} {y : Ce} (h : Tl c f k m false) (hk : k < c.length) (hy : c.getD k Ce.zero = y) : Tl c f (k + 1) m (decide ((3992 : Int) < (y.ini.length : Int))) := by
  subst hy
  refine ⟨fun e => too_c hk (by have := of_decide_eq_true e; omega), fun e => ?_⟩
  obtain ⟨h1, h2, h3, h4⟩ := h.no rfl
  refine ⟨h1, h2, fun j hj => ?_, h4⟩
  by_cases e1 : j = k
  · subst e1; have := of_decide_eq_false e; omega
  · exact h3 j (by omega)
theorem Tl.f1 {c : List Ce} {f : List Fe} {k m : Nat} {y : Fe} (h : Tl c f k m false) (hk : m < f.length) (hy : f.getD m Fe.zero = y) : Tl c f k (m + 1) (decide ((3992 : Int) < (y.ops.length : Int))) := by
  subst hy
  refine ⟨fun e => too_f hk (by have := of_decide_eq_true e; omega), fun e => ?_⟩
  obtain ⟨h1, h2, h3, h4⟩ := h.no rfl
  refine ⟨h1, h2, h3, fun j hj => ?_⟩
  by_cases e1 : j = m
  · subst e1; have := of_decide_eq_false e; omega
  · exact h4 j (by omega)
theorem Tl.t1 {c : List Ce} {f : List Fe} {k m k' m' : Nat} (h : Tl c f k m true) : Tl c f k' m' true := ⟨h.yes, fun e => by cases e⟩

set_option maxRecDepth 20000 in
set_option maxHeartbeats 16000000 in
theorem rcheck_any (hK : RCk) (ac : Option Addr) (cc : Nat) (c : List Ce) (af : Option Addr) (cf : Nat) (f : List Fe) (w : World) (hC : Cs w ac c) (hF : Fs w af f) (hcl : c.length ≤ 140737488355328) (hfl : f.length ≤ 140737488355328) (hei : ∀ x ∈ c, -9223372036854775808 ≤ x.enc ∧ x.enc ≤ 9223372036854775807) :
    Calls Tryd.prog 16 #[.slice ac c.length cc, .slice af f.length cf] w fun e w' => e = .returned (.int .i64 (checkE c f)) ∧ Below w.heap.size w w' := by
  have HK : Hid RCk := ⟨hK⟩
  have HC : Hid _ := ⟨hC⟩
  have HF : Hid _ := ⟨hF⟩
  have HE : Hid _ := ⟨hei⟩
  have hcl' : (c.length : Int) ≤ 140737488355328 := by omega
  have hfl' : (f.length : Int) ≤ 140737488355328 := by omega
  clear hC hF hei hcl hfl hK
  obtain ⟨E, hE⟩ : ∃ E, checkE c f = E := ⟨_, rfl⟩
  rw [hE]
  have HEq : Hid _ := ⟨hE⟩
  clear hE
  go_enter Tryd.func16, Tryd.ntmps16
  go_upto_region 1 with (fail)
  go_cut [5] from 12 to 19 (fun s5 wx => ∃ bl : Bool, s5 = .bool bl ∧ Hid (Tl c f 0 0 bl) ∧ wx = w)
  case first =>
    by_cases h1 : (4000 : Int) < (c.length : Int)
    · have HT : Hid (Tl c f 0 0 true) := ⟨⟨fun _ => too_l1 (by omega), fun e => (by cases e)⟩⟩
      go_wp2
      go_meet
      exact ⟨true, rfl, HT, rfl⟩
    · by_cases h2 : (4000 : Int) < (f.length : Int)
      · have HT : Hid (Tl c f 0 0 true) := ⟨⟨fun _ => too_l2 (by omega), fun e => (by cases e)⟩⟩
        go_wp2
        go_meet
        exact ⟨true, rfl, HT, rfl⟩
      · have HT : Hid (Tl c f 0 0 false) := ⟨⟨fun e => (by cases e), fun _ => ⟨by omega, by omega, fun j hj => by omega, fun j hj => by omega⟩⟩⟩
        go_wp2
        go_meet
        exact ⟨false, rfl, HT, rfl⟩
  case rest =>
  obtain ⟨bl0, rfl, HT0, hwx⟩ := hcut
  subst hwx
  go_wp2
  go_loopw [5, 6] (fun v5 iv wr => ∃ k : Nat, ∃ bl : Bool, k ≤ c.length ∧ iv = .int .i64 k ∧ v5 = .bool bl ∧ Hid (Tl c f k 0 bl) ∧ wr = wc) (fun _ iv _ => c.length - (intOf iv).toNat)
  case atStart => exact ⟨0, _, by omega, rfl, rfl, HT0, rfl⟩
  case round =>
    obtain ⟨k, bl, hk, rfl, rfl, HT, hw⟩ := hrel
    subst hw
    by_cases hlt : k < c.length
    · have q1 : (k : Int) < (c.length : Int) := by omega
      have q0 : (0 : Int) ≤ (k : Int) := by omega
      cases bl
      · obtain ⟨b, off, rfl, hat⟩ : ∃ b off, ac = some ⟨b, off, none⟩ ∧ ∀ j, j < c.length → CeAt wr b (off + j * 2) (c.getD j Ce.zero) := by
          rcases HC.out with h | h
          · omega
          · exact h
        obtain ⟨a, cp, c0, c1, hI⟩ := hat k hlt
        have HT1 : Hid _ := ⟨fun y => HT.out.c1 (y := y) hlt⟩
        obtain ⟨y, hy⟩ : ∃ y, c.getD k Ce.zero = y := ⟨_, rfl⟩
        rw [hy] at c0 c1
        have HY : Hid _ := ⟨hy⟩
        clear hat hI hy
        go_wp2
        go_roundw
        case rel => exact ⟨k + 1, _, by omega, by go_num, rfl, ⟨HT1.out _ HY.out⟩, (by first | rfl | trivial)⟩
        case measure => simp [intOf]; omega
      · go_wp2
        go_roundw
        case rel => exact ⟨k + 1, _, by omega, by go_num, rfl, ⟨HT.out.t1⟩, (by first | rfl | trivial)⟩
        case measure => simp [intOf]; omega
    · obtain rfl : k = c.length := by omega
      go_wp2
      go_loopw [5, 7] (fun v5 iv wq => ∃ k : Nat, ∃ bl : Bool, k ≤ f.length ∧ iv = .int .i64 k ∧ v5 = .bool bl ∧ Hid (Tl c f c.length k bl) ∧ wq = wr) (fun _ iv _ => f.length - (intOf iv).toNat)
      case atStart => exact ⟨0, _, by omega, rfl, rfl, HT, rfl⟩
      case round =>
        clear HT
        obtain ⟨k, bl, hk, rfl, rfl, HT, hw⟩ := hrel
        subst hw
        by_cases hlt : k < f.length
        · have q1 : (k : Int) < (f.length : Int) := by omega
          have q0 : (0 : Int) ≤ (k : Int) := by omega
          cases bl
          · obtain ⟨b, off, rfl, hat⟩ : ∃ b off, af = some ⟨b, off, none⟩ ∧ ∀ j, j < f.length → FeAt wr b (off + j * 4) (f.getD j Fe.zero) := by
              rcases HF.out with h | h
              · omega
              · exact h
            obtain ⟨a, cp, c0, c1, c2, c3, hI⟩ := hat k hlt
            have HT1 : Hid _ := ⟨fun y => HT.out.f1 (y := y) hlt⟩
            obtain ⟨y, hy⟩ : ∃ y, f.getD k Fe.zero = y := ⟨_, rfl⟩
            rw [hy] at c0 c1 c2 c3
            have HY : Hid _ := ⟨hy⟩
            clear hat hI hy
            go_wp2
            go_roundw
            case rel => exact ⟨k + 1, _, by omega, by go_num, rfl, ⟨HT1.out _ HY.out⟩, (by first | rfl | trivial)⟩
            case measure => simp [intOf]; omega
          · go_wp2
            go_roundw
            case rel => exact ⟨k + 1, _, by omega, by go_num, rfl, ⟨HT.out.t1⟩, (by first | rfl | trivial)⟩
            case measure => simp [intOf]; omega
        · obtain rfl : k = f.length := by omega
          cases bl
          rotate_left
          · obtain rfl : E = 6 := by rw [← HEq.out]; exact chk_6 (HT.out.yes rfl)
            go_wp2
            go_ret
            exact ⟨rfl, Below.refl _ _⟩
          · have htoo : tooB c f = false := by
              obtain ⟨h1, h2, h3, h4⟩ := HT.out.no rfl
              exact too_no h1 h2 h3 h4
            have HTo : Hid _ := ⟨htoo⟩
            clear HT htoo
            go_wp2
            go_loopw [8] (fun iv wq => ∃ k : Nat, k ≤ c.length ∧ iv = .int .i64 k ∧ Hid (∀ j, j < k → encB (c.getD j Ce.zero).enc = true) ∧ wq = wr) (fun iv _ => c.length - (intOf iv).toNat)
            case atStart => exact ⟨0, by omega, rfl, ⟨fun j hj => by omega⟩, rfl⟩
            case round =>
              obtain ⟨k, hk, rfl, HN, hw⟩ := hrel
              subst hw
              by_cases hlt : k < c.length
              · have q1 : (k : Int) < (c.length : Int) := by omega
                have q0 : (0 : Int) ≤ (k : Int) := by omega
                obtain ⟨b, off, rfl, hat⟩ : ∃ b off, ac = some ⟨b, off, none⟩ ∧ ∀ j, j < c.length → CeAt wr b (off + j * 2) (c.getD j Ce.zero) := by
                  rcases HC.out with h | h
                  · omega
                  · exact h
                obtain ⟨a, cp, c0, c1, hI⟩ := hat k hlt
                have HEn : Hid _ := ⟨fun W => renc_any (c.getD k Ce.zero).enc W (HE.out _ (ce_in hlt)).2⟩
                have HNx : Hid (encB (c.getD k Ce.zero).enc = true → ∀ j, j < k + 1 → encB (c.getD j Ce.zero).enc = true) := ⟨fun h j hj => by
                  by_cases e1 : j = k
                  · subst e1; exact h
                  · exact HN.out j (by omega)⟩
                have HNo : Hid (encB (c.getD k Ce.zero).enc = false → E = 140) := ⟨fun h => by rw [← HEq.out]; exact chk_140 HTo.out (nums_c hlt h)⟩
                obtain ⟨y, hy⟩ : ∃ y, c.getD k Ce.zero = y := ⟨_, rfl⟩
                rw [hy] at c0 c1 HEn HNx HNo
                clear hat hI hy
                generalize encB y.enc = eb at *
                cases eb
                · obtain rfl := HNo.out rfl
                  go_wp2_with (go_at_call 23; (with_reducible refine (HEn.out _).mono ?_); rintro e wn ⟨he, hwn⟩; subst he; subst wn)
                  go_ret
                  exact ⟨rfl, Below.refl _ _⟩
                · go_wp2_with (go_at_call 23; (with_reducible refine (HEn.out _).mono ?_); rintro e wn ⟨he, hwn⟩; subst he; subst wn)
                  go_roundw
                  case rel => exact ⟨k + 1, by omega, by go_num, ⟨HNx.out (by first | rfl | trivial)⟩, (by first | rfl | trivial)⟩
                  case measure => simp [intOf]; omega
              · obtain rfl : k = c.length := by omega
                go_wp2
                go_loopw [9] (fun iv wq => ∃ k : Nat, k ≤ f.length ∧ iv = .int .i64 k ∧ Hid (∀ j, j < k → feB c.length (f.getD j Fe.zero) = true) ∧ wq = wr) (fun iv _ => f.length - (intOf iv).toNat)
                case atStart => exact ⟨0, by omega, rfl, ⟨fun j hj => by omega⟩, rfl⟩
                case round =>
                  obtain ⟨k, hk, rfl, HM, hw⟩ := hrel
                  subst hw
                  by_cases hlt : k < f.length
                  · have q1 : (k : Int) < (f.length : Int) := by omega
                    have q0 : (0 : Int) ≤ (k : Int) := by omega
                    obtain ⟨b, off, rfl, hat⟩ : ∃ b off, af = some ⟨b, off, none⟩ ∧ ∀ j, j < f.length → FeAt wr b (off + j * 4) (f.getD j Fe.zero) := by
                      rcases HF.out with h | h
                      · omega
                      · exact h
                    obtain ⟨a, cp, c0, c1, c2, c3, hI⟩ := hat k hlt
                    have HFr : Hid _ := ⟨fun W => rfar_any (f.getD k Fe.zero).beg W⟩
                    have HNx : Hid (feB c.length (f.getD k Fe.zero) = true → ∀ j, j < k + 1 → feB c.length (f.getD j Fe.zero) = true) := ⟨fun h j hj => by
                      by_cases e1 : j = k
                      · subst e1; exact h
                      · exact HM.out j (by omega)⟩
                    have HNo : Hid (feB c.length (f.getD k Fe.zero) = false → E = 140) := ⟨fun h => by rw [← HEq.out]; exact chk_140 HTo.out (nums_f hlt h)⟩
                    obtain ⟨y, hy⟩ : ∃ y, f.getD k Fe.zero = y := ⟨_, rfl⟩
                    rw [hy] at c0 c1 c2 c3 HFr HNx HNo
                    clear hat hI hy
                    obtain ⟨eb, heb⟩ : ∃ eb, awayB y.beg = eb := ⟨_, rfl⟩
                    rw [heb] at HFr
                    by_cases a1 : y.cie < 0
                    · obtain rfl := HNo.out (fe_no (.inl a1))
                      clear heb
                      go_wp2_with (go_at_call 24; (with_reducible refine (HFr.out _).mono ?_); rintro e wn ⟨he, hwn⟩; subst he; subst wn)
                      go_ret
                      exact ⟨rfl, Below.refl _ _⟩
                    by_cases a2 : (c.length : Int) ≤ y.cie
                    · obtain rfl := HNo.out (fe_no (.inr (.inl a2)))
                      clear heb
                      go_wp2_with (go_at_call 24; (with_reducible refine (HFr.out _).mono ?_); rintro e wn ⟨he, hwn⟩; subst he; subst wn)
                      go_ret
                      exact ⟨rfl, Below.refl _ _⟩
                    cases eb
                    rotate_left
                    · obtain rfl := HNo.out (fe_no (.inr (.inr (.inl heb))))
                      clear heb
                      go_wp2_with (go_at_call 24; (with_reducible refine (HFr.out _).mono ?_); rintro e wn ⟨he, hwn⟩; subst he; subst wn)
                      go_ret
                      exact ⟨rfl, Below.refl _ _⟩
                    by_cases a4 : y.size < 0
                    · obtain rfl := HNo.out (fe_no (.inr (.inr (.inr (.inl a4)))))
                      clear heb
                      go_wp2_with (go_at_call 24; (with_reducible refine (HFr.out _).mono ?_); rintro e wn ⟨he, hwn⟩; subst he; subst wn)
                      go_ret
                      exact ⟨rfl, Below.refl _ _⟩
                    by_cases a5 : 1048576 < y.size
                    · obtain rfl := HNo.out (fe_no (.inr (.inr (.inr (.inr a5)))))
                      clear heb
                      go_wp2_with (go_at_call 24; (with_reducible refine (HFr.out _).mono ?_); rintro e wn ⟨he, hwn⟩; subst he; subst wn)
                      go_ret
                      exact ⟨rfl, Below.refl _ _⟩
                    have HNy : Hid _ := ⟨HNx.out (fe_yes a1 a2 heb a4 a5)⟩
                    clear heb
                    go_wp2_with (go_at_call 24; (with_reducible refine (HFr.out _).mono ?_); rintro e wn ⟨he, hwn⟩; subst he; subst wn)
                    go_roundw
                    case rel => exact ⟨k + 1, by omega, by go_num, HNy, (by first | rfl | trivial)⟩
                    case measure => simp [intOf]; omega
                  · obtain rfl : k = f.length := by omega
                    have HNu : Hid (numsB c f = true) := ⟨nums_ok HN.out HM.out⟩
                    obtain ⟨hci, hfi, _, _⟩ := too_cl HTo.out
                    have HCI : Hid _ := ⟨hci⟩
                    have HFI : Hid _ := ⟨hfi⟩
                    have HMm : Hid _ := ⟨HM.out⟩
                    clear hci hfi HN HM
                    generalize hw0 : wr = w0 at *
                    have HW0 : Hid _ := ⟨hw0⟩
                    clear hw0
                    go_wp2
                    go_loopw [10] (fun iv wq => ∃ k : Nat, k ≤ c.length ∧ iv = .int .i64 k ∧ Hid (∀ j, j < k → rowsE (c.getD j Ce.zero).ini [] 0 = 0) ∧ Hid (Below w0.heap.size w0 wq)) (fun iv _ => c.length - (intOf iv).toNat)
                    case atStart => exact ⟨0, by omega, rfl, ⟨fun j hj => by omega⟩, ⟨Below.refl _ _⟩⟩
                    case round =>
                      obtain ⟨k, hk, rfl, HR, HW⟩ := hrel
                      by_cases hlt : k < c.length
                      · have q1 : (k : Int) < (c.length : Int) := by omega
                        have q0 : (0 : Int) ≤ (k : Int) := by omega
                        obtain ⟨b, off, rfl, hat⟩ : ∃ b off, ac = some ⟨b, off, none⟩ ∧ ∀ j, j < c.length → CeAt w0 b (off + j * 2) (c.getD j Ce.zero) := by
                          rcases HC.out with h | h
                          · omega
                          · exact h
                        obtain ⟨a, cp, c0, c1, hI⟩ := hat k hlt
                        replace c1 := up_bel c1 HW.out
                        have HCk : Hid (∀ W, Below w0.heap.size w0 W → Calls Tryd.prog 48 #[.slice a (c.getD k Ce.zero).ini.length cp, .slice none 0 0, .int .i64 0] W fun e w' => e = .returned (.int .i64 (rowsE (c.getD k Ce.zero).ini [] 0)) ∧ Below W.heap.size W w') := ⟨fun W hW => HK.out W a cp (c.getD k Ce.zero).ini none 0 [] 0 (HCI.out _ (ce_in hlt)) (by simp) (by omega) (hI.ops.bel hW) (.inl rfl)⟩
                        have HNx : Hid (rowsE (c.getD k Ce.zero).ini [] 0 = 0 → ∀ j, j < k + 1 → rowsE (c.getD j Ce.zero).ini [] 0 = 0) := ⟨fun h j hj => by
                          by_cases e1 : j = k
                          · subst e1; exact h
                          · exact HR.out j (by omega)⟩
                        have HNo : Hid (rowsE (c.getD k Ce.zero).ini [] 0 ≠ 0 → E = 130) := ⟨fun h => by rw [← HEq.out]; exact chk_130 HTo.out HNu.out (ops_c hlt h)⟩
                        obtain ⟨y, hy⟩ : ∃ y, c.getD k Ce.zero = y := ⟨_, rfl⟩
                        rw [hy] at c1 HCk HNx HNo
                        clear hat hI hy c0
                        generalize rowsE y.ini [] 0 = R at *
                        by_cases hR : R = 0
                        · subst hR
                          have HNy : Hid _ := ⟨HNx.out (by first | rfl | trivial)⟩
                          go_wp2_with (go_at_call 48; (with_reducible refine (HCk.out _ HW.out).mono ?_); rintro e w2 ⟨he, hb⟩; subst he; have HW2 : Hid (Below w0.heap.size w0 w2) := ⟨HW.out.trans (hb.mono HW.out.size)⟩; clear hb)
                          go_roundw
                          case rel => exact ⟨k + 1, by omega, by go_num, HNy, HW2⟩
                          case measure => simp [intOf]; omega
                        · obtain rfl := HNo.out hR
                          have n1 : (R != 0) = true := by simpa using hR
                          have n2 : (R == 0) = false := by simpa using hR
                          go_wp2_with (go_at_call 48; (with_reducible refine (HCk.out _ HW.out).mono ?_); rintro e w2 ⟨he, hb⟩; subst he; have HW2 : Hid (Below w0.heap.size w0 w2) := ⟨HW.out.trans (hb.mono HW.out.size)⟩; clear hb)
                          go_ret
                          exact ⟨rfl, by rw [HW0.out]; exact HW2.out⟩
                      · obtain rfl : k = c.length := by omega
                        go_wp2
                        generalize wr = w1 at *
                        go_loopw [11] (fun iv wq => ∃ k : Nat, k ≤ f.length ∧ iv = .int .i64 k ∧ Hid (∀ j, j < k → feE c (f.getD j Fe.zero) = 0) ∧ Hid (Below w0.heap.size w0 wq)) (fun iv _ => f.length - (intOf iv).toNat)
                        case atStart => exact ⟨0, by omega, rfl, ⟨fun j hj => by omega⟩, HW⟩
                        case round =>
                          clear HW
                          obtain ⟨k, hk, rfl, HQ, HW⟩ := hrel
                          by_cases hlt : k < f.length
                          · have q1 : (k : Int) < (f.length : Int) := by omega
                            have q0 : (0 : Int) ≤ (k : Int) := by omega
                            obtain ⟨b, off, rfl, hat⟩ : ∃ b off, af = some ⟨b, off, none⟩ ∧ ∀ j, j < f.length → FeAt w0 b (off + j * 4) (f.getD j Fe.zero) := by
                              rcases HF.out with h | h
                              · omega
                              · exact h
                            obtain ⟨a, cp, c0, c1, c2, c3, hI⟩ := hat k hlt
                            have hfe := HMm.out k hlt
                            obtain ⟨q, hq⟩ : ∃ q : Nat, (f.getD k Fe.zero).cie = (q : Int) := ⟨(f.getD k Fe.zero).cie.toNat, by have := fe_in1 hfe; omega⟩
                            have hql : q < c.length := by have := fe_in2 hfe; omega
                            obtain ⟨d, doff, rfl, hdt⟩ : ∃ b off, ac = some ⟨b, off, none⟩ ∧ ∀ j, j < c.length → CeAt w0 b (off + j * 2) (c.getD j Ce.zero) := by
                              rcases HC.out with h | h
                              · omega
                              · exact h
                            obtain ⟨a', cp', d0, d1, hJ⟩ := hdt q hql
                            rw [hq] at c0
                            have r1 : (q : Int) < (c.length : Int) := by omega
                            have r0 : (0 : Int) ≤ (q : Int) := by omega
                            have HWd : Hid (Below w0.heap.size w0 wr.drew) := ⟨HW.out.trans ((Below.refl _ wr).drew.mono HW.out.size)⟩
                            replace c0 := up_bel c0 HWd.out
                            replace c2 := up_bel c2 HWd.out
                            replace c3 := up_bel c3 HWd.out
                            replace d1 := up_bel d1 HWd.out
                            have HCk : Hid (∀ W, Below w0.heap.size w0 W → Calls Tryd.prog 48 #[.slice a' (c.getD q Ce.zero).ini.length cp', .slice a (f.getD k Fe.zero).ops.length cp, .int .i64 (f.getD k Fe.zero).size] W fun e w' => e = .returned (.int .i64 (feE c (f.getD k Fe.zero))) ∧ Below W.heap.size W w') := ⟨fun W hW => by
                              have := HK.out W a' cp' (c.getD q Ce.zero).ini a cp (f.getD k Fe.zero).ops (f.getD k Fe.zero).size (HCI.out _ (ce_in hql)) (HFI.out _ (fe_in hlt)) (fe_in3 hfe) (hJ.ops.bel hW) (hI.ops.bel hW)
                              have e : feE c (f.getD k Fe.zero) = rowsE (c.getD q Ce.zero).ini (f.getD k Fe.zero).ops (f.getD k Fe.zero).size := by unfold feE; rw [hq]; rfl
                              rw [e]
                              exact this⟩
                            have HNx : Hid (feE c (f.getD k Fe.zero) = 0 → ∀ j, j < k + 1 → feE c (f.getD j Fe.zero) = 0) := ⟨fun h j hj => by
                              by_cases e1 : j = k
                              · subst e1; exact h
                              · exact HQ.out j (by omega)⟩
                            have HNo : Hid (feE c (f.getD k Fe.zero) ≠ 0 → E = 130) := ⟨fun h => by rw [← HEq.out]; exact chk_130 HTo.out HNu.out (ops_f hlt h)⟩
                            obtain ⟨y, hy⟩ : ∃ y, f.getD k Fe.zero = y := ⟨_, rfl⟩
                            obtain ⟨z, hz⟩ : ∃ z, c.getD q Ce.zero = z := ⟨_, rfl⟩
                            rw [hy] at c2 c3 HCk HNx HNo
                            rw [hz] at d1 HCk
                            clear hat hI hy hz c1 d0 hdt hJ hfe hq
                            generalize feE c y = R at *
                            by_cases hR : R = 0
                            · subst hR
                              have HNy : Hid _ := ⟨HNx.out (by first | rfl | trivial)⟩
                              go_wp2
                              go_region_held3 (fun v => v.cell? ⟨b, off + k * 4, none⟩ = some (.int .i64 (q : Int)) ∧ v.cell? ⟨b, off + k * 4 + 2, none⟩ = some (.int .i64 y.size) ∧ v.cell? ⟨b, off + k * 4 + 3, none⟩ = some (.slice a y.ops.length cp) ∧ v.cell? ⟨d, doff + q * 2 + 1, none⟩ = some (.slice a' z.ini.length cp'))
                                (first | (with_reducible assumption) | exact ⟨a_0, a_1, a_2, a_3⟩ | exact ⟨c0, c2, c3, d1⟩)
                                ((go_at_call 48; (with_reducible refine (HCk.out _ HWd.out).mono ?_); rintro e u ⟨rfl, hu⟩; have HU1 : Hid (Below w0.heap.size w0 u) := ⟨HWd.out.trans (hu.mono HWd.out.size)⟩; have a_0 := up_bel c0 hu; have a_1 := up_bel c2 hu; have a_2 := up_bel c3 hu; have a_3 := up_bel d1 hu; clear hu))
                              go_wp2
                              go_roundw
                              case rel => exact ⟨k + 1, by omega, by go_num, HNy, HU1⟩
                              case measure => simp [intOf]; omega
                            · obtain rfl := HNo.out hR
                              have n1 : (R != 0) = true := by simpa using hR
                              have n2 : (R == 0) = false := by simpa using hR
                              go_wp2
                              go_region_held3 (fun v => v.cell? ⟨b, off + k * 4, none⟩ = some (.int .i64 (q : Int)) ∧ v.cell? ⟨b, off + k * 4 + 2, none⟩ = some (.int .i64 y.size) ∧ v.cell? ⟨b, off + k * 4 + 3, none⟩ = some (.slice a y.ops.length cp) ∧ v.cell? ⟨d, doff + q * 2 + 1, none⟩ = some (.slice a' z.ini.length cp'))
                                (first | (with_reducible assumption) | exact ⟨a_0, a_1, a_2, a_3⟩ | exact ⟨c0, c2, c3, d1⟩)
                                ((go_at_call 48; (with_reducible refine (HCk.out _ HWd.out).mono ?_); rintro e u ⟨rfl, hu⟩; have HU1 : Hid (Below w0.heap.size w0 u) := ⟨HWd.out.trans (hu.mono HWd.out.size)⟩; have a_0 := up_bel c0 hu; have a_1 := up_bel c2 hu; have a_2 := up_bel c3 hu; have a_3 := up_bel d1 hu; clear hu))
                              go_wp2
                              go_ret
                              exact ⟨rfl, by rw [HW0.out]; exact HU1.out⟩
                          · obtain rfl : k = f.length := by omega
                            obtain rfl : E = 0 := by rw [← HEq.out]; exact chk_0 HTo.out HNu.out (ops_ok HR.out HQ.out)
                            go_wp2
                            go_ret
                            exact ⟨rfl, by rw [HW0.out]; exact HW.out⟩
end Go.Proofs.YtomboebfbipaaaaDoor

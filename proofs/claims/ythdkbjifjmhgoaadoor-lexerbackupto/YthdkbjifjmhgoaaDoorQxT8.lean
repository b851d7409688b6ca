/- The program's tokens: whole texts; any token. -/
import Derived.Test.YthdkbjifjmhgoaaDoorQxT7
namespace Go.Proofs.YthdkbjifjmhgoaaDoor
open Go.ChangeShapes Go.WideShapes Go.ChangeAt Go.RowKit
set_option linter.unusedVariables false
set_option linter.unusedSimpArgs false
section
variable {w w1 w2 : World} {rb : Nat} {s : ByteArray} {a : Nat} {ln : Int} {lv : Value}

theorem RD.belowB (h : RD w rb s a ln lv) {B : Nat} (hb : Below B w w1) (hB : rb < B) : RD w1 rb s a ln lv :=
  h.turn (S := fun k => B ≤ k) ⟨hb.os, hb.tape, hb.output, hb.size, fun k hk hn => hb.block k (by omega)⟩ (fun e => by omega) (fun k e => by have := h.hi; omega)
theorem TR.grow (h : TR rb w w1) {B : Nat} (hb : Below B w1 w2) (hB : w.heap.size ≤ B) : TR rb w w2 :=
  ⟨hb.os.trans h.os, hb.tape.trans h.tape, hb.output.trans h.output, Nat.le_trans h.size hb.size, fun k hk hn => (hb.block k (by omega)).trans (h.block k hk hn)⟩
theorem TBP.belowB {g : Nat} (h : TBP w g) {B : Nat} (hb : Below B w w1) (hB : g < B) : TBP w1 g :=
  h.turn (S := fun k => B ≤ k) ⟨hb.os, hb.tape, hb.output, hb.size, fun k hk hn => hb.block k (by omega)⟩ (fun e => by omega)

theorem tok_no {M : Option (Tok × Nat)} (h : M = none) {w w' : World} {p q r : Int} {t : ByteArray} {a' : Nat} (R : RD w' rb s a' ln lv) (T : TR rb w w') : TokE M rb s a ln lv w (.returned (.tuple #[.agg #[.int .i64 p, .int .i64 q, .int .i64 r, .string t], .bool false])) w' := by subst h; exact ⟨p, q, r, t, a', rfl, R, T⟩
theorem tok_yes {M : Option (Tok × Nat)} {x : Tok × Nat} (h : M = some x) {w w' : World} {k n : Int} {t : ByteArray} (hk : k = x.1.k) (hn : n = x.1.n) (ht : t = St x.1.t) {a' : Nat} (ha : a' = a + x.2) (R : RD w' rb s a' ln lv) (T : TR rb w w') : TokE M rb s a ln lv w (.returned (.tuple #[.agg #[.int .i64 k, .int .i64 0, .int .i64 n, .string t], .bool true])) w' := by subst h; subst hk; subst hn; subst ht; subst ha; exact ⟨rfl, R, T⟩

/-- So far: acc has been read; the rest from k on. -/
def QP (L : List UInt8) (M : Option (List UInt8 × Nat)) (acc : List UInt8) (k : Nat) : Prop := k ≤ L.length ∧ acc.length ≤ k ∧ ∃ n, L.length < k + n ∧ M = quoF n (L.drop k) acc (k + 1)
theorem QP.nil {L : List UInt8} {M : Option (List UInt8 × Nat)} {acc : List UInt8} {k : Nat} (h : QP L M acc k) (hn : L.drop k = []) : M = none := by
  obtain ⟨_, _, n, _, rfl⟩ := h
  rw [hn]
  cases n <;> rfl
theorem QP.stop {L : List UInt8} {M : Option (List UInt8 × Nat)} {acc : List UInt8} {k : Nat} (h : QP L M acc k) {r : List UInt8} (hn : L.drop k = 34 :: r) : M = some (acc, k + 2) := by
  obtain ⟨hk, _, n, h2, rfl⟩ := h
  rw [hn]
  cases n with
  | zero => omega
  | succ n => rfl
theorem QP.none {L : List UInt8} {M : Option (List UInt8 × Nat)} {acc : List UInt8} {k : Nat} (h : QP L M acc k) {c : UInt8} {r : List UInt8} (hn : L.drop k = c :: r) (h34 : ¬ c = 34) (ht : textM (c :: r) = Option.none) : M = Option.none := by
  obtain ⟨hk, _, n, h2, rfl⟩ := h
  rw [hn]
  cases n with
  | zero => omega
  | succ n => rw [quo_text n c r acc _ h34, ht]
theorem QP.step {L : List UInt8} {M : Option (List UInt8 × Nat)} {acc : List UInt8} {k : Nat} (h : QP L M acc k) {c : UInt8} {r : List UInt8} (hn : L.drop k = c :: r) (h34 : ¬ c = 34) {x : UInt8} {j : Nat} (ht : textM (c :: r) = some (x, j)) : QP L M (acc ++ [x]) (k + j) := by
  obtain ⟨hk, hacc, n, h2, rfl⟩ := h
  obtain ⟨j1, j2⟩ := text_le ht
  have hlen : (c :: r).length = L.length - k := by rw [← hn, List.length_drop]
  refine ⟨by omega, by simp; omega, ?_⟩
  rw [hn]
  cases n with
  | zero => omega
  | succ n =>
    refine ⟨n, by omega, ?_⟩
    rw [quo_text n c r acc _ h34, ht, ← List.drop_drop, hn]
    simp only
    congr 1
    omega

set_option maxHeartbeats 4000000 in
set_option maxRecDepth 10000 in
theorem quotedText_any (h : RD w rb s a ln lv) (hl : s.size ≤ 8796093022208) (ha : a ≤ s.size) : Calls Tryd.prog 50 #[.pointer (some ⟨rb, 0, none⟩)] w fun e w' => TokE ((quoM (34 :: Ln s a)).map fun p => (⟨3, 0, p.1⟩, p.2 - 1)) rb s a ln lv w e w' := by
  have HR : Hid _ := ⟨h⟩
  have hne := h.lt
  obtain ⟨M, hM⟩ : ∃ M, quoM (34 :: Ln s a) = M := ⟨_, rfl⟩
  have HM0 : Hid (QP (Ln s a) M [] 0) := ⟨Nat.zero_le _, Nat.zero_le _, (Ln s a).length + 2, by omega, by rw [← hM]; rfl⟩
  have hLn := Ln_len s a
  rw [hM]
  clear h hM
  go_enter Tryd.func50, Tryd.ntmps50
  go_wp2_with fail
  go_loopw [4] (fun v wr => ∃ (k : Nat) (acc : List UInt8), k ≤ (Ln s a).length ∧ acc.length ≤ k ∧ Hid (RD wr rb s (a + k) ln lv ∧ TR rb (w.alloc tokZP) wr ∧ Own wr (w.heap.size + 1) v (acc.map zOf) ∧ QP (Ln s a) M acc k)) (fun _ wr => a + s.size + 1 - atOf wr rb)
  case atStart => exact ⟨0, [], Nat.zero_le _, Nat.zero_le _, ⟨HR.out.alloc tokZP, TR.self _ _, Own.nil _ _, HM0.out⟩⟩
  case round =>
    obtain ⟨k, acc, hk, hacc, HW⟩ := hrel
    obtain ⟨R1, T1, O1, Q1⟩ := HW.out
    have hak := Ln_top s k a hk ha
    have hme : Hid _ := ⟨R1.atOf⟩
    have hbs : w.heap.size + 1 ≤ wr.heap.size := by have := T1.size; simpa using this
    have hLk := Ln_drop s k a hk
    clear HM0
    cases hD : (Ln s a).drop k with
    | nil =>
      have HN : Hid (M = none) := ⟨Q1.nil hD⟩
      have HK : Hid _ := ⟨take_no R1 (by omega) (b := 34) (by rw [hLk, hD]; decide)⟩
      have HX : Hid (∀ W, RD W rb s (a + k) ln lv → Calls Tryd.prog 69 #[.pointer (some ⟨rb, 0, none⟩)] W fun e w' => ∃ (x : Int) (a' : Nat), e = .returned (.tuple #[.int .u8 x, .bool false]) ∧ RD w' rb s a' ln lv ∧ TR rb W w') := ⟨fun W hW => by
        have := textByte_any hW hl hak
        rw [hLk, hD] at this
        exact this⟩
      have HT1 : Hid _ := ⟨T1⟩
      clear R1 T1 O1 Q1 HW hD hLk
      go_wp2_with (first
        | (go_at_call 34; (with_reducible refine HK.out.mono ?_); rintro e w1 ⟨rfl, R2, T2⟩; have HR2 : Hid _ := ⟨R2⟩; have HT2 : Hid _ := ⟨HT1.out.trans T2⟩; clear R2 T2)
        | (go_at_call 69; (with_reducible refine (HX.out _ HR2.out).mono ?_); rintro e w3 ⟨x, a', rfl, R3, T3⟩; have HR3 : Hid _ := ⟨R3⟩; have HT3 : Hid _ := ⟨HT2.out.trans T3⟩; clear R3 T3; obtain ⟨d0, d1, d2, d3, fz⟩ := TBP.of HR.out HT3.out; have f0 := fz 0; have f1 := fz 1; have f2 := fz 2; have f3 := fz 3; clear fz))
      refine bodyPost_ret (resS_quotedText _ w3 w.heap.size _ _ _ _ rfl (TBP.of HR.out HT3.out)) rfl ?_
      exact tok_no (by rw [HN.out]; rfl) (HR3.out.set4 hne _ _ _ _) (TR.set4 HT3.out _ _ _ _)
    | cons c r =>
      by_cases h34 : c = 34
      · subst h34
        have HN : Hid (M = some (acc, k + 2)) := ⟨Q1.stop hD⟩
        have HK : Hid _ := ⟨take_yes R1 (by omega) (b := 34) (by rw [hLk, hD]; rfl)⟩
        have HT1 : Hid _ := ⟨T1⟩
        have HO1 : Hid _ := ⟨O1⟩
        clear R1 T1 O1 Q1 HW hD hLk
        go_wp2_with (first
          | (go_at_call 34; (with_reducible refine HK.out.mono ?_); rintro e w3 ⟨rfl, R3, T3⟩; have k1 := own_conv (show Own w3 _ _ _ from T3.row HO1.out (fun k hk e => by have := (HO1.out.lt k hk).1; omega)); have HR3 : Hid _ := ⟨R3⟩; have HT3 : Hid _ := ⟨HT1.out.trans T3⟩; clear R3 T3; obtain ⟨d0, d1, d2, d3, fz⟩ := TBP.of HR.out HT3.out; have f0 := fz 0; have f1 := fz 1; have f2 := fz 2; have f3 := fz 3; clear fz))
        refine bodyPost_ret (resS_quotedText _ w3 w.heap.size _ _ _ _ rfl (TBP.of HR.out HT3.out)) rfl ?_
        exact tok_yes (x := (⟨3, 0, acc⟩, k + 1)) (by rw [HN.out]; rfl) rfl rfl (str_St acc) (by simp only; omega) (HR3.out.set4 hne _ _ _ _) (TR.set4 HT3.out _ _ _ _)
      · have HK : Hid _ := ⟨take_no R1 (by omega) (b := 34) (by rw [hLk, hD]; exact fun e => h34 ((u8z (n := 34) (by omega)).1 e))⟩
        have HX0 : ∀ W, RD W rb s (a + k) ln lv → Calls Tryd.prog 69 #[.pointer (some ⟨rb, 0, none⟩)] W fun e w' => BytE (textM (c :: r)) rb s (a + k) ln lv W e w' := fun W hW => by
          have := textByte_any hW hl hak
          rw [hLk, hD] at this
          exact this
        have HT1 : Hid _ := ⟨T1⟩
        cases ht : textM (c :: r) with
        | none =>
          have HN : Hid (M = none) := ⟨Q1.none hD h34 ht⟩
          rw [ht] at HX0
          have HX : Hid _ := ⟨HX0⟩
          dsimp only [BytE] at HX
          clear R1 T1 O1 Q1 HW hD hLk HX0 ht h34
          go_wp2_with (first
            | (go_at_call 34; (with_reducible refine HK.out.mono ?_); rintro e w1 ⟨rfl, R2, T2⟩; have HR2 : Hid _ := ⟨R2⟩; have HT2 : Hid _ := ⟨HT1.out.trans T2⟩; clear R2 T2)
            | (go_at_call 69; (with_reducible refine (HX.out _ HR2.out).mono ?_); rintro e w3 ⟨x, a', rfl, R3, T3⟩; have HR3 : Hid _ := ⟨R3⟩; have HT3 : Hid _ := ⟨HT2.out.trans T3⟩; clear R3 T3; obtain ⟨d0, d1, d2, d3, fz⟩ := TBP.of HR.out HT3.out; have f0 := fz 0; have f1 := fz 1; have f2 := fz 2; have f3 := fz 3; clear fz))
          refine bodyPost_ret (resS_quotedText _ w3 w.heap.size _ _ _ _ rfl (TBP.of HR.out HT3.out)) rfl ?_
          exact tok_no (by rw [HN.out]; rfl) (HR3.out.set4 hne _ _ _ _) (TR.set4 HT3.out _ _ _ _)
        | some p =>
          obtain ⟨x, j⟩ := p
          have HQ2 : Hid _ := ⟨Q1.step hD h34 ht⟩
          obtain ⟨j1, j2⟩ := text_le ht
          have hlen : (c :: r).length = (Ln s a).length - k := by rw [← hD, List.length_drop]
          have hkj : k + j ≤ (Ln s a).length := by omega
          rw [ht] at HX0
          have HX : Hid _ := ⟨HX0⟩
          dsimp only [BytE] at HX
          have HO1 : Hid _ := ⟨O1⟩
          clear R1 T1 O1 Q1 HW hD hLk HX0 ht h34 j2 hlen
          go_wp2_with (first
            | (go_at_call 34; (with_reducible refine HK.out.mono ?_); rintro e w1 ⟨rfl, R2, T2⟩; have HO2 : Hid (Own w1 (w.heap.size + 1) _ (acc.map zOf)) := ⟨T2.row HO1.out (fun k hk e => by have := (HO1.out.lt k hk).1; omega)⟩; have HR2 : Hid _ := ⟨R2⟩; have HT2 : Hid _ := ⟨HT1.out.trans T2⟩; clear R2 T2)
            | (go_at_call 69; (with_reducible refine (HX.out _ HR2.out).mono ?_); rintro e w3 ⟨rfl, R3, T3⟩; have HO3 : Hid (Own w3 (w.heap.size + 1) _ (acc.map zOf)) := ⟨T3.row HO2.out (fun k hk e => by have := (HO2.out.lt k hk).1; omega)⟩; have HR3 : Hid _ := ⟨R3⟩; have HT3 : Hid _ := ⟨HT2.out.trans T3⟩; have hb3 : w.heap.size + 1 ≤ w3.heap.size := (by have := HT3.out.size; simpa using this); clear R3 T3)
            | (at_builtin; (refine append_byte w3 rfl _ _ rfl (w.heap.size + 1) _ (acc.map zOf) rfl (by exact HO3.out) (zOf x) rfl (by rw [List.length_map]; omega) hb3 ?_; intro v2 w9 ho2 hb2)))
          have R9 := HR3.out.belowB hb2 (by omega)
          have T9 := TR.grow HT3.out hb2 (by simp)
          have hme2 : Hid _ := ⟨R9.atOf⟩
          have R9' : RD w9 rb s (a + (k + j)) ln lv := by rw [← Nat.add_assoc]; exact R9
          go_roundw
          case rel => exact ⟨k + j, acc ++ [x], hkj, by simp; omega, ⟨R9', T9, by rw [List.map_append]; exact ho2, HQ2.out⟩⟩
          case measure => rw [hme.out, hme2.out]; omega
end
end Go.Proofs.YthdkbjifjmhgoaaDoor

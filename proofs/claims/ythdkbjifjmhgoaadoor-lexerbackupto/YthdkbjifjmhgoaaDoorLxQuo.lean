/- The document's quoted texts. -/
import Derived.Test.YthdkbjifjmhgoaaDoorLxEsc
import Derived.Test.YthdkbjifjmhgoaaDoorLxBytes
namespace Go.Proofs.YthdkbjifjmhgoaaDoor
open Go.ChangeShapes Go.WideShapes Go.ChangeAt Go.RowKit
set_option linter.unusedVariables false
set_option linter.unusedSimpArgs false

/-- A text's three results. -/
def quoV (m : Option (List UInt8 × Nat)) : Value :=
  match m with
  | none => .tuple #[.string ⟨#[]⟩, .int .i64 0, .bool false]
  | some p => .tuple #[.string (St p.1), .int .i64 p.2, .bool true]
theorem quo_n {M : Option (List UInt8 × Nat)} (h : M = none) {w w' : World} (hw : Below w.heap.size w w') : Ending.returned (.tuple #[.string ⟨#[]⟩, .int .i64 0, .bool false]) = .returned (quoV M) ∧ Below w.heap.size w w' := by
  subst h; exact ⟨rfl, hw⟩
theorem quo_s {M : Option (List UInt8 × Nat)} {t : List UInt8} {k : Nat} {s : ByteArray} {v : Int} (h : M = some (t, k)) (hs : s = St t) (hv : v = k) {w w' : World} (hw : Below w.heap.size w w') : Ending.returned (.tuple #[.string s, .int .i64 v, .bool true]) = .returned (quoV M) ∧ Below w.heap.size w w' := by
  subst h; subst hs; subst hv; exact ⟨rfl, hw⟩

theorem esc_le {l : List UInt8} {x : UInt8} {k : Nat} (h : escM l = some (x, k)) : 1 ≤ k ∧ k ≤ l.length ∧ k ≤ 3 := by
  unfold escM at h
  cases l with
  | nil => cases h
  | cons c r =>
    simp only at h
    repeat (first | (split at h) | (simp only [Option.some.injEq, Prod.mk.injEq] at h; obtain ⟨_, rfl⟩ := h; simp) | cases h)

/-- So far: acc has been read; the rest from k on. -/
def QFar (s : ByteArray) (M : Option (List UInt8 × Nat)) (acc : List UInt8) (k : Nat) : Prop := ∃ n, s.size < k + n ∧ M = quoF n ((lo s).drop k) acc k

theorem QFar.stop {s : ByteArray} {M : Option (List UInt8 × Nat)} {acc : List UInt8} {k : Nat} (h : QFar s M acc k) (hk : ¬ k < s.size) : M = none := by
  obtain ⟨n, _, rfl⟩ := h
  rw [List.drop_of_length_le (by rw [lo_len]; omega)]
  cases n <;> rfl
theorem QFar.step {s : ByteArray} {M : Option (List UInt8 × Nat)} {acc : List UInt8} {k : Nat} (h : QFar s M acc k) (hk : k < s.size) : ∃ n, s.size < k + n + 1 ∧ M = (if s[k] = 34 then some (acc, k + 1) else if zOf s[k] < 32 ∨ 126 < zOf s[k] then none else if s[k] = 92 then (match escM ((lo s).drop (k + 1)) with | none => none | some (x, j) => quoF n (((lo s).drop (k + 1)).drop j) (acc ++ [x]) (k + 1 + j)) else quoF n ((lo s).drop (k + 1)) (acc ++ [s[k]]) (k + 1)) := by
  obtain ⟨n, hn, rfl⟩ := h
  cases n with
  | zero => omega
  | succ n => exact ⟨n, by omega, by rw [lo_drop s k hk]; rfl⟩

set_option maxHeartbeats 4000000 in
set_option maxRecDepth 10000 in
theorem rquoted_any (s : ByteArray) (w : World) (hl : s.size ≤ 8796093022208) :
    Calls Tryd.prog 55 #[.string s] w fun e w' => e = .returned (quoV (quoM (lo s))) ∧ Below w.heap.size w w' := by
  obtain ⟨M, hM⟩ : ∃ M, quoM (lo s) = M := ⟨_, rfl⟩
  have HM0 : Hid (QFar s M [] 1) := ⟨(lo s).length + 1, by rw [lo_len]; omega, by rw [← hM]; rfl⟩
  rw [hM]
  clear hM
  go_enter Tryd.func55, Tryd.ntmps55
  go_wp2
  go_loopw [6, 5] (fun i v wr => ∃ (k : Nat) (acc : List UInt8), i = .int .i64 k ∧ 1 ≤ k ∧ k ≤ 8796093022209 ∧ Hid (Own wr w.heap.size v (acc.map zOf) ∧ Below w.heap.size w wr ∧ acc.length ≤ k ∧ QFar s M acc k)) (fun i _ _ => 8796093022210 - (intOf i).toNat)
  case atStart => exact ⟨1, [], rfl, by omega, by omega, ⟨Own.nil _ _, Below.refl _ _, by simp, HM0.out⟩⟩
  case round =>
    obtain ⟨k, acc, rfl, hk1, hk2, HW⟩ := hrel
    obtain ⟨O1, B1, ha, Q1⟩ := HW.out
    have hbs := B1.size
    by_cases hlt : k < s.size
    · obtain ⟨n, hn, hst⟩ := Q1.step hlt
      have hlti : (k : Int) < (s.size : Int) := by omega
      have hc := s[k].toNat_lt
      have hzz : zOf s[k] = (s[k].toNat : Int) := rfl
      rw [hzz] at hst
      have HB1 : Hid _ := ⟨B1⟩
      have HO1 : Hid _ := ⟨O1⟩
      clear HW Q1 hzz
      by_cases c34 : s[k] = 34
      · have q34 : ((s[k].toNat : Int) == 34) = true := by rw [c34]; rfl
        rw [if_pos c34] at hst
        have hn' : Hid (M = some (acc, k + 1)) := ⟨hst⟩
        have k1 := own_conv O1
        clear hst c34 O1 B1
        go_wp2
        go_ret3
        exact quo_s hn'.out (str_St acc) (by go_num) HB1.out
      · have q34 : ((s[k].toNat : Int) == 34) = false := by rw [beq_eq_false_iff_ne]; intro h; exact c34 (UInt8.toNat_inj.1 (by show s[k].toNat = 34; omega))
        rw [if_neg c34] at hst
        clear c34
        by_cases g1 : (s[k].toNat : Int) < 32
        · have hn' : Hid (M = none) := ⟨by rw [hst, if_pos (.inl g1)]⟩
          clear hst O1 B1
          go_wp2
          go_ret3
          exact quo_n hn'.out HB1.out
        · by_cases g2 : 126 < (s[k].toNat : Int)
          · have hn' : Hid (M = none) := ⟨by rw [hst, if_pos (.inr g2)]⟩
            clear hst O1 B1
            go_wp2
            go_ret3
            exact quo_n hn'.out HB1.out
          · rw [if_neg (by omega)] at hst
            by_cases c92 : s[k] = 92
            · have q92 : ((s[k].toNat : Int) == 92) = true := by rw [c92]; rfl
              rw [if_pos c92] at hst
              have HE : Hid (∀ w, Calls Tryd.prog 72 #[.string (s.extract (k + 1) s.size)] w fun e w' => e = .returned (escV (escM ((lo s).drop (k + 1)))) ∧ Below w.heap.size w w') := ⟨fun w => by
                have := rescaped_any (s.extract (k + 1) s.size) w (by rw [ByteArray.size_extract]; omega)
                rw [lo_sub, List.take_of_length_le (by rw [List.length_drop, lo_len]; exact Nat.le_refl _)] at this
                exact this⟩
              have hw1 : IntKind.i64.wrap ((k : Int) + 1) = (k : Int) + 1 := by rw [IntKind.wrap_i64]; omega
              have i0 : (0 : Int) ≤ (k : Int) + 1 := by omega
              have i1 : (k : Int) + 1 ≤ (s.size : Int) := by omega
              cases he : escM ((lo s).drop (k + 1)) with
              | none =>
                rw [he] at hst HE
                dsimp only [escV] at HE
                have hn' : Hid (M = none) := ⟨hst⟩
                clear hst c92 O1 B1 he
                go_wp2_with (go_at_call 72; (with_reducible refine (HE.out _).mono ?_); rintro e w1 ⟨rfl, hb1⟩)
                go_ret3
                exact quo_n hn'.out (HB1.out.trans (hb1.mono HB1.out.size))
              | some p =>
                obtain ⟨x, j⟩ := p
                obtain ⟨j1, j2, j3⟩ := esc_le he
                rw [List.length_drop, lo_len] at j2
                rw [he] at hst HE
                dsimp only [escV] at HE
                dsimp only at hst
                have HN : Hid (QFar s M (acc ++ [x]) (k + 1 + j)) := ⟨n, by omega, by rw [hst, List.drop_drop]⟩
                have hw2 : IntKind.i64.wrap ((k : Int) + (j : Int)) = (k : Int) + (j : Int) := by rw [IntKind.wrap_i64]; omega
                clear hst c92 O1 B1 he
                go_wp2_with (first
                  | (go_at_call 72; (with_reducible refine (HE.out _).mono ?_); rintro e w1 ⟨rfl, hb1⟩)
                  | (at_builtin; refine append_byte w1 rfl _ _ rfl w.heap.size _ (acc.map zOf) rfl (own_bel HO1.out hb1) (zOf x) rfl (by rw [List.length_map]; omega) (Nat.le_trans hbs hb1.size) ?_; intro v2 w2 ho2 hb2))
                go_roundw
                case rel => exact ⟨k + 1 + j, acc ++ [x], by go_num, by omega, by omega, ⟨by rw [List.map_append]; exact ho2, (HB1.out.trans (hb1.mono HB1.out.size)).trans hb2, by simp; omega, HN.out⟩⟩
                case measure => simp [intOf]; omega
            · have q92 : ((s[k].toNat : Int) == 92) = false := by rw [beq_eq_false_iff_ne]; intro h; exact c92 (UInt8.toNat_inj.1 (by show s[k].toNat = 92; omega))
              rw [if_neg c92] at hst
              have HN : Hid (QFar s M (acc ++ [s[k]]) (k + 1)) := ⟨n, by omega, hst⟩
              clear hst c92 O1 B1
              go_wp2_with (at_builtin; refine append_byte _ rfl _ _ rfl w.heap.size _ (acc.map zOf) rfl HO1.out (zOf s[k]) rfl (by rw [List.length_map]; omega) hbs ?_; intro v2 w2 ho2 hb2)
              go_roundw
              case rel => exact ⟨k + 1, acc ++ [s[k]], by go_num, by omega, by omega, ⟨by rw [List.map_append]; exact ho2, HB1.out.trans hb2, by simp; omega, HN.out⟩⟩
              case measure => simp [intOf]; omega
    · have hn' : Hid (M = none) := ⟨Q1.stop hlt⟩
      have HB1 : Hid _ := ⟨B1⟩
      clear O1 B1 Q1 HW
      go_wp2
      go_ret3
      exact quo_n hn'.out HB1.out
end Go.Proofs.YthdkbjifjmhgoaaDoor

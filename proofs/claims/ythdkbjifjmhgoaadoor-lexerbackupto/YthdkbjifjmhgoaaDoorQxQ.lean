/- The program's Quote. -/
import Derived.Test.YthdkbjifjmhgoaaDoorLxQ0
import Derived.Test.YthdkbjifjmhgoaaDoorQxS2
import Derived.Test.YthdkbjifjmhgoaaDoorQxT5
import Derived.Laws.MakeOwn
namespace Go.Proofs.YthdkbjifjmhgoaaDoor
open Go.ChangeShapes Go.WideShapes Go.ChangeAt Go.RowKit
set_option linter.unusedVariables false
set_option linter.unusedSimpArgs false

/-- One byte, as numbers, in the program's order. -/
theorem quoC_z (c : UInt8) : (quoC c).map zOf = if c = 34 ∨ c = 92 then [92, zOf c] else if zOf c = 32 ∨ (32 < zOf c ∧ zOf c ≤ 126) then [zOf c] else if c = 10 then [92, 110] else if c = 9 then [92, 116] else [92, 120, zOf (hexD (c.toNat / 16)), zOf (hexD (c.toNat % 16))] := by
  have : ∀ n : Fin 256, (quoC (UInt8.ofNat n.val)).map zOf = if UInt8.ofNat n.val = 34 ∨ UInt8.ofNat n.val = 92 then [92, zOf (UInt8.ofNat n.val)] else if zOf (UInt8.ofNat n.val) = 32 ∨ (32 < zOf (UInt8.ofNat n.val) ∧ zOf (UInt8.ofNat n.val) ≤ 126) then [zOf (UInt8.ofNat n.val)] else if UInt8.ofNat n.val = 10 then [92, 110] else if UInt8.ofNat n.val = 9 then [92, 116] else [92, 120, zOf (hexD ((UInt8.ofNat n.val).toNat / 16)), zOf (hexD ((UInt8.ofNat n.val).toNat % 16))] := by decide +kernel
  have h := this ⟨c.toNat, c.toNat_lt⟩
  simpa using h
theorem and_15 (c : UInt8) : bits .and .u8 (c.toNat : Int) 15 = ((c.toNat % 16 : Nat) : Int) := by
  have : ∀ n : Fin 256, bits .and .u8 ((n.val : Nat) : Int) 15 = ((n.val % 16 : Nat) : Int) := by decide +kernel
  exact this ⟨c.toNat, c.toNat_lt⟩

set_option maxHeartbeats 8000000 in
set_option maxRecDepth 10000 in
theorem appendQuoted_any (v : Value) (xs : List Int) (base : Nat) (c : UInt8) (w : World) (hO : Own w base v xs) (hbs : base ≤ w.heap.size) (hlen : xs.length ≤ 140737488355320) :
    Calls Tryd.prog 27 #[v, .int .u8 (c.toNat : Int)] w fun e w' => ∃ v', e = .returned v' ∧ Own w' base v' (xs ++ (quoC c).map zOf) ∧ Below base w w' := by
  have hq := quoC_z c
  rw [hq]
  have HO1 : Hid _ := ⟨hO⟩
  have hzz : zOf c = (c.toNat : Int) := rfl
  have hc := c.toNat_lt
  rw [hzz]
  clear hq hzz
  by_cases c34 : c = 34
  · have q34 : ((c.toNat : Int) == 34) = true := by rw [c34]; rfl
    rw [if_pos (.inl c34)]
    clear hO c34
    go_enter Tryd.func27, Tryd.ntmps27
    go_wp2_with (at_builtin; refine append_lit _ rfl _ _ rfl base _ _ rfl (by exact HO1.out) [92, (c.toNat : Int)] _ rfl _ _ rfl rfl rfl (by simp only [List.length_cons, List.length_nil]; omega) hbs ?_; intro v2 w2 ho2 hb2)
    go_ret
    exact ⟨_, rfl, ho2, hb2⟩
  · have q34 : ((c.toNat : Int) == 34) = false := by rw [beq_eq_false_iff_ne]; intro e; exact c34 ((u8z (n := 34) (by omega)).1 e)
    by_cases c92 : c = 92
    · have q92 : ((c.toNat : Int) == 92) = true := by rw [c92]; rfl
      rw [if_pos (.inr c92)]
      clear hO c34 c92
      go_enter Tryd.func27, Tryd.ntmps27
      go_wp2_with (at_builtin; refine append_lit _ rfl _ _ rfl base _ _ rfl (by exact HO1.out) [92, (c.toNat : Int)] _ rfl _ _ rfl rfl rfl (by simp only [List.length_cons, List.length_nil]; omega) hbs ?_; intro v2 w2 ho2 hb2)
      go_ret
      exact ⟨_, rfl, ho2, hb2⟩
    · have q92 : ((c.toNat : Int) == 92) = false := by rw [beq_eq_false_iff_ne]; intro e; exact c92 ((u8z (n := 92) (by omega)).1 e)
      rw [if_neg (by rintro (e | e); exact c34 e; exact c92 e)]
      have HSh0 := fun W => isShown_any (c.toNat : Int) W
      by_cases c32 : (c.toNat : Int) = 32
      · have q32 : ((c.toNat : Int) == 32) = true := by rw [c32]; rfl
        rw [if_pos (.inl c32)]
        clear hO c34 c92 c32 HSh0
        go_enter Tryd.func27, Tryd.ntmps27
        go_wp2_with (at_builtin; refine append_lit _ rfl _ _ rfl base _ _ rfl (by exact HO1.out) [(c.toNat : Int)] _ rfl _ _ rfl rfl rfl (by simp only [List.length_cons, List.length_nil]; omega) hbs ?_; intro v2 w2 ho2 hb2)
        go_ret
        exact ⟨_, rfl, ho2, hb2⟩
      · have q32 : ((c.toNat : Int) == 32) = false := by simpa using c32
        by_cases g : 32 < (c.toNat : Int) ∧ (c.toNat : Int) ≤ 126
        · rw [if_pos (.inr g)]
          have HSh : Hid (∀ W, Calls Tryd.prog 41 #[.int .u8 (c.toNat : Int)] W fun e w' => e = .returned (.bool true) ∧ w' = W) := ⟨fun W => by
            have := HSh0 W
            rw [decide_eq_true g.1, decide_eq_true g.2] at this
            exact this⟩
          clear hO c34 c92 c32 HSh0 g
          go_enter Tryd.func27, Tryd.ntmps27
          go_wp2_with (first
            | (go_at_call 41; (with_reducible refine (HSh.out _).mono ?_); rintro e w' ⟨rfl, hw'⟩; subst w')
            | (at_builtin; refine append_lit _ rfl _ _ rfl base _ _ rfl (by exact HO1.out) [(c.toNat : Int)] _ rfl _ _ rfl rfl rfl (by simp only [List.length_cons, List.length_nil]; omega) hbs ?_; intro v2 w2 ho2 hb2))
          go_ret
          exact ⟨_, rfl, ho2, hb2⟩
        · rw [if_neg (by rintro (e | e); exact c32 e; exact g e)]
          have HSh : Hid (∀ W, Calls Tryd.prog 41 #[.int .u8 (c.toNat : Int)] W fun e w' => e = .returned (.bool false) ∧ w' = W) := ⟨fun W => by
            have := HSh0 W
            have e0 : (decide (32 < (c.toNat : Int)) && decide ((c.toNat : Int) ≤ 126)) = false := by
              rw [← Bool.decide_and]; exact decide_eq_false g
            rw [e0] at this
            exact this⟩
          by_cases c10 : c = 10
          · have q10 : ((c.toNat : Int) == 10) = true := by rw [c10]; rfl
            rw [if_pos c10]
            clear hO c34 c92 c32 HSh0 g c10
            go_enter Tryd.func27, Tryd.ntmps27
            go_wp2_with (first
              | (go_at_call 41; (with_reducible refine (HSh.out _).mono ?_); rintro e w' ⟨rfl, hw'⟩; subst w')
              | (at_builtin; refine append_lit _ rfl _ _ rfl base _ _ rfl (by exact HO1.out) [92, 110] _ rfl _ _ rfl rfl rfl (by simp only [List.length_cons, List.length_nil]; omega) hbs ?_; intro v2 w2 ho2 hb2))
            go_ret
            exact ⟨_, rfl, ho2, hb2⟩
          · have q10 : ((c.toNat : Int) == 10) = false := by rw [beq_eq_false_iff_ne]; intro e; exact c10 ((u8z (n := 10) (by omega)).1 e)
            rw [if_neg c10]
            by_cases c9 : c = 9
            · have q9 : ((c.toNat : Int) == 9) = true := by rw [c9]; rfl
              rw [if_pos c9]
              clear hO c34 c92 c32 HSh0 g c10 c9
              go_enter Tryd.func27, Tryd.ntmps27
              go_wp2_with (first
                | (go_at_call 41; (with_reducible refine (HSh.out _).mono ?_); rintro e w' ⟨rfl, hw'⟩; subst w')
                | (at_builtin; refine append_lit _ rfl _ _ rfl base _ _ rfl (by exact HO1.out) [92, 116] _ rfl _ _ rfl rfl rfl (by simp only [List.length_cons, List.length_nil]; omega) hbs ?_; intro v2 w2 ho2 hb2))
              go_ret
              exact ⟨_, rfl, ho2, hb2⟩
            · have q9 : ((c.toNat : Int) == 9) = false := by rw [beq_eq_false_iff_ne]; intro e; exact c9 ((u8z (n := 9) (by omega)).1 e)
              rw [if_neg c9]
              obtain ⟨i0, hi, hz0, hz1, hz2⟩ := info_parts info5
              have HI : Hid (_ ∧ _ ∧ _ ∧ _) := ⟨hi, hz0, hz1, hz2⟩
              clear hi hz0 hz1 hz2
              have hd1 : c.toNat / 16 < 16 := by omega
              have hd2 : c.toNat % 16 < 16 := by omega
              have ea := and_15 c
              obtain ⟨n1, hn1⟩ : ∃ n, c.toNat / 16 = n := ⟨_, rfl⟩
              obtain ⟨n2, hn2⟩ : ∃ n, c.toNat % 16 = n := ⟨_, rfl⟩
              rw [hn1] at hd1 ⊢
              rw [hn2] at hd2 ea ⊢
              have e1 : (c.toNat : Int) / 16 = (n1 : Int) := by omega
              have e3 : (c.toNat : Int).tdiv 16 = (n1 : Int) := by rw [Int.tdiv_eq_ediv_of_nonneg (by omega)]; exact e1
              have p1 : (n1 : Int) < 16 := by omega
              have p2 : (n2 : Int) < 16 := by omega
              have p3 : n1 < (⟨#[48, 49, 50, 51, 52, 53, 54, 55, 56, 57, 97, 98, 99, 100, 101, 102]⟩ : ByteArray).size := hd1
              have p4 : n2 < (⟨#[48, 49, 50, 51, 52, 53, 54, 55, 56, 57, 97, 98, 99, 100, 101, 102]⟩ : ByteArray).size := hd2
              have p5 : (n1 : Int) < ((⟨#[48, 49, 50, 51, 52, 53, 54, 55, 56, 57, 97, 98, 99, 100, 101, 102]⟩ : ByteArray).size : Int) := by omega
              have p6 : (n2 : Int) < ((⟨#[48, 49, 50, 51, 52, 53, 54, 55, 56, 57, 97, 98, 99, 100, 101, 102]⟩ : ByteArray).size : Int) := by omega
              have p7 : (0 : Int) ≤ (n1 : Int) := by omega
              have p8 : (0 : Int) ≤ (n2 : Int) := by omega
              have x1 : (⟨#[48, 49, 50, 51, 52, 53, 54, 55, 56, 57, 97, 98, 99, 100, 101, 102]⟩ : ByteArray)[n1]'p3 = hexD n1 := lit_hex n1 hd1
              have x2 : (⟨#[48, 49, 50, 51, 52, 53, 54, 55, 56, 57, 97, 98, 99, 100, 101, 102]⟩ : ByteArray)[n2]'p4 = hexD n2 := lit_hex n2 hd2
              clear hn1 hn2 hO c34 c92 c32 HSh0 g c10 c9
              go_enter Tryd.func27, Tryd.ntmps27
              go_wp2_with (go_at_call 41; (with_reducible refine (HSh.out _).mono ?_); rintro e w' ⟨rfl, hw'⟩; subst w')
              go_region_held_law (fun _ => True) (trivial)
                ((refine step_append_lies _ (by rfl) _ _ _ (by rfl) base 5 i0 (.int .u8 0) 1 1 Tryd.underlying59 HI.out.1 HI.out.2.1 HI.out.2.2.1 HI.out.2.2.2 rfl (by decide) _ xs.length (xs.map (Value.int .u8)) (by rfl) (World.ownsRow.alloc HO1.out _) ⟨w.heap.size, 0, none⟩ 4 4 _ (by rfl) rfl (World.news_of_block (heap_alloc_new w _)) (by intro u hu; simp at hu; rcases hu with rfl | rfl | rfl | rfl <;> rfl) (by omega) (by unfold maxLen; omega) (by omega) (by simp; omega) (w.heap.size + 1) (by simp) ?_; intro g cap w1 hown1 hgrow hat hlt2))
              all_goals
                have hOx : Own w1 base (.slice (some ⟨g, 0, none⟩) (xs.length + 4) cap) (xs ++ [92, 120, zOf (hexD n1), zOf (hexD n2)]) := by
                  unfold Own
                  rw [List.map_append, List.length_append]
                  exact hown1
                have hB : Below base w w1 := (((Below.refl base w).alloc hbs _).drew).grown hgrow (by simp; omega) HO1.out.block
                have HOO : Hid _ := ⟨hOx⟩
                have HBB : Hid _ := ⟨hB⟩
                clear hOx hB hown1 hgrow
                go_wp2
                go_ret
                exact ⟨.slice (some ⟨g, 0, none⟩) (xs.length + 4) cap, by simp, HOO.out, HBB.out⟩

theorem made_own (w : World) (c : Nat) (hc : c ≤ maxLen) : Own (w.alloc (.cells (madeCells (Value.int .u8 0).cells c) 5)) w.heap.size (.slice (some ⟨w.heap.size, 0, none⟩) 0 c) [] := by
  refine ⟨rfl, .inr ⟨w.heap.size, c, madeCells (Value.int .u8 0).cells c, rfl, Nat.le_refl _, heap_alloc_new w _, Nat.zero_le _, hc, by rw [size_madeCells, Nat.mul_one], ?_⟩⟩
  simp

set_option maxHeartbeats 4000000 in
set_option maxRecDepth 10000 in
theorem pquote (s : ByteArray) (w : World) (hl : s.size ≤ 8796093022208) :
    Calls Tryd.prog 17 #[.string s] w fun e w' => e = .returned (.string (St (quoteM (lo s)))) ∧ Below w.heap.size w w' := by
  have HE : Hid (strOfNums (qz s s.size ++ [34]) = St (quoteM (lo s))) := ⟨by
    rw [← str_St]
    congr 1
    unfold qz quoteM
    rw [List.take_of_length_le (by rw [lo_len]; exact Nat.le_refl _)]
    simp
    rfl⟩
  obtain ⟨i0, hi, hz0, hz1, hz2⟩ := info_parts info5
  have hw1 : IntKind.i64.wrap ((s.size : Int) + 2) = (s.size : Int) + 2 := by rw [IntKind.wrap_i64]; omega
  obtain ⟨W, hmk, hO0, hG⟩ := run_make_own (P := Tryd.prog) w w.heap.size 59 5 i0 (.int .u8 0) 1 Tryd.underlying59 hi hz0 hz1 .i64 .i64 (s.size + 2) (by rw [hz2]; omega) (by unfold maxLen; omega) (Nat.le_refl _)
  rw [show ((s.size + 2 : Nat) : Int) = (s.size : Int) + 2 by omega] at hmk
  have HO0 : Hid (Own W w.heap.size (.slice (some ⟨w.heap.size, 0, none⟩) 0 (s.size + 2)) []) := ⟨hO0⟩
  have HB0 : Hid (Below w.heap.size w W) := ⟨(Below.refl _ _).grown hG (Nat.le_refl _) (fun _ e => by cases e)⟩
  have hbz : w.heap.size ≤ W.heap.size := HB0.out.size
  clear hi hz0 hz1 hz2 hO0 hG
  go_enter Tryd.func17, Tryd.ntmps17
  go_wp2_with (at_builtin; refine append_lit _ rfl _ _ rfl w.heap.size _ _ rfl (by exact HO0.out) [34] _ rfl _ _ rfl rfl rfl (by simp only [List.length_cons, List.length_nil]; omega) hbz ?_; intro v1 w1 ho1 hb1)
  have HO1 : Hid (Own w1 w.heap.size v1 (qz s 0)) := ⟨ho1⟩
  have HB1 : Hid (Below w.heap.size w w1) := ⟨HB0.out.trans hb1⟩
  clear ho1 hb1 HO0 HB0 hmk
  go_loopw [14, 3] (fun i v wr => ∃ k : Nat, k ≤ s.size ∧ i = .int .i64 k ∧ Hid (Own wr w.heap.size v (qz s k) ∧ Below w.heap.size w wr)) (fun i _ _ => s.size - (intOf i).toNat)
  case atStart => exact ⟨0, by omega, rfl, ⟨HO1.out, HB1.out⟩⟩
  case round =>
    clear HO1 HB1
    obtain ⟨k, hk, rfl, HW⟩ := hrel
    have HB1 : Hid _ := ⟨HW.out.2⟩
    have HO1 : Hid _ := ⟨HW.out.1⟩
    have hbs := HW.out.2.size
    have hql := qz_len s k hk
    clear HW
    by_cases hlt : k < s.size
    · have hlti : (k : Int) < (s.size : Int) := by omega
      have hc := s[k].toNat_lt
      have HC : Hid _ := ⟨qz_snoc s k hlt⟩
      have HQ : Hid _ := ⟨appendQuoted_any _ (qz s k) w.heap.size s[k] _ HO1.out hbs (by omega)⟩
      go_wp2_with (go_at_call 27; (with_reducible refine HQ.out.mono ?_); rintro e w2 ⟨v2, rfl, ho2, hb2⟩)
      go_roundw
      case rel => exact ⟨k + 1, hlt, by go_num, ⟨by rw [HC.out]; exact ho2, HB1.out.trans hb2⟩⟩
      case measure => simp [intOf]; omega
    · obtain rfl : k = s.size := by omega
      go_wp2_with (at_builtin; refine append_lit _ rfl _ _ rfl w.heap.size _ _ rfl HO1.out [34] _ rfl _ _ rfl rfl rfl (by simp only [List.length_cons, List.length_nil]; omega) hbs ?_; intro v2 w2 ho2 hb2; have k1 := own_conv ho2)
      go_ret
      exact ⟨ret_str HE.out, HB1.out.trans hb2⟩
end Go.Proofs.YthdkbjifjmhgoaaDoor

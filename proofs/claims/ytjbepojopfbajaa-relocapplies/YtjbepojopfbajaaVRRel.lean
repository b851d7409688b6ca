/- The document's Relax. -/
import Derived.Test.YtjbepojopfbajaaVRApp
import Derived.Test.YtjbepojopfbajaaVLive
namespace Go.Proofs.Ytjbepojopfbajaa
open Go.ChangeShapes Go.WideShapes Go.ChangeAt Go.RowKit
set_option linter.unusedVariables false
set_option linter.unusedSimpArgs false

theorem ld_x {x : Int} (h : 0 ≤ x ∧ x < 256) : (bits .andNot .u8 x 4 == 72) = !((x != 72) && (x != 76)) := by
  have : ∀ k : Nat, k < 256 → (bits .andNot .u8 (k : Int) 4 == 72) = !(((k : Int) != 72) && ((k : Int) != 76)) := by decide +kernel
  have h2 := this x.toNat (by omega)
  rwa [show ((x.toNat : Nat) : Int) = x by omega] at h2
theorem ld_eq {x y z : Int} (h : 0 ≤ x ∧ x < 256) : ldB x y z = !((y != 139) || (bits .and .u8 z 199 != 5) || ((x != 72) && (x != 76))) := by
  unfold ldB
  rw [ld_x h]
  have e1 : (y != 139) = !(y == 139) := rfl
  have e2 : (bits .and .u8 z 199 != 5) = !(bits .and .u8 z 199 == 5) := rfl
  rw [e1, e2]
  cases (y == 139) <;> cases (bits .and .u8 z 199 == 5) <;> cases ((x != 72) && (x != 76)) <;> rfl
set_option maxHeartbeats 1000000 in
set_option maxRecDepth 20000 in
theorem rrelax_no (ao : Option Addr) (n cap : Nat) (bs : Nat → Int) (t : Int) (w : World) (hrow : IsRow w ao n cap bs) (hn : n ≤ 140737488355328) (ht : -9223372036854775808 ≤ t ∧ t ≤ 9223372036854775807) (h : relB bs n t = false) :
    Calls Try.prog 26 #[.slice ao n cap, .int .i64 t] w fun e w' => e = .returned (.tuple #[.int .u8 0, .slice none 0 0, .bool false]) ∧ Below w.heap.size w w' := by
  have HB0 : Hid (Below w.heap.size w w) := ⟨Below.refl _ _⟩
  by_cases h3 : t < 3
  · clear h hrow
    go_enter Try.func26, Try.ntmps26
    go_wp2
    go_ret3
    exact ⟨rfl, HB0.out⟩
  · by_cases h4 : (n : Int) - 4 < t
    · have h1 : decide (t < 3) = false := decide_eq_false h3
      have h2 : decide ((n : Int) - 4 < t) = true := decide_eq_true h4
      clear h hrow
      go_enter Try.func26, Try.ntmps26
      go_wp2
      go_ret3
      exact ⟨rfl, HB0.out⟩
    · obtain ⟨a, rfl⟩ : ∃ a : Nat, t = a + 3 := ⟨(t - 3).toNat, by omega⟩
      have hl : ldB (bs a) (bs (a + 1)) (bs (a + 2)) = false := by
        unfold relB at h
        rw [decide_eq_true (by omega), decide_eq_true (by omega)] at h
        have e1 : ((a : Int) + 3).toNat = a + 3 := by omega
        rw [e1] at h
        simpa using h
      rw [ld_eq (hrow.byte a)] at hl
      obtain ⟨b, off, rfl, hc⟩ : ∃ b off, ao = some ⟨b, off, none⟩ ∧ ∀ i, i < n → w.cell? ⟨b, off + i, none⟩ = some (.int .u8 (bs i)) := by
        rcases hrow.row with h | h
        · omega
        · exact h
      have c0 := hc a (by omega)
      have c1 := hc (a + 1) (by omega)
      have c2 := hc (a + 2) (by omega)
      clear h hrow hc
      have e9 : (a : Int) + 3 - 3 = a := by omega
      have e8 : ((a : Int) + 3 - 2).toNat = a + 1 := by omega
      have e7 : ((a : Int) + 3 - 1).toNat = a + 2 := by omega
      have i1 : a < n := by omega
      have i2 : a + 1 < n := by omega
      have i3 : a + 2 < n := by omega
      generalize bs (a + 1) = y at *
      generalize bs (a + 2) = z at *
      generalize bs a = x at *
      obtain ⟨b1, h1⟩ : ∃ q, (y != 139) = q := ⟨_, rfl⟩
      obtain ⟨b2, h2⟩ : ∃ q, (bits .and .u8 z 199 != 5) = q := ⟨_, rfl⟩
      obtain ⟨b3, h5⟩ : ∃ q, (x != 72) = q := ⟨_, rfl⟩
      obtain ⟨b4, h6⟩ : ∃ q, (x != 76) = q := ⟨_, rfl⟩
      rw [h1, h2, h5, h6] at hl
      go_enter Try.func26, Try.ntmps26
      cases b1
      · cases b2
        · cases b3
          · cases hl
          · cases b4
            · cases hl
            · go_wp2
              go_ret3
              exact ⟨rfl, HB0.out⟩
        · go_wp2
          go_ret3
          exact ⟨rfl, HB0.out⟩
      · go_wp2
        go_ret3
        exact ⟨rfl, HB0.out⟩
set_option maxHeartbeats 1000000 in
set_option maxRecDepth 20000 in
theorem rrelax_yes (ao : Option Addr) (n cap : Nat) (bs : Nat → Int) (a : Nat) (w : World) (hrow : IsRow w ao n cap bs) (hn : n ≤ 140737488355328) (ha : a + 7 ≤ n) (hl : ldB (bs a) (bs (a + 1)) (bs (a + 2)) = true) :
    Calls Try.prog 26 #[.slice ao n cap, .int .i64 ((a : Int) + 3)] w fun e w' => RlxEnd n a bs w e w' := by
  rw [ld_eq (hrow.byte a)] at hl
  have HR : Hid (∀ W, Below w.heap.size w W → Row W ao n bs) := ⟨fun W h => hrow.row.below h (Nat.le_refl _)⟩
  have HZ : Hid (ao = none → n = 0 ∧ cap = 0) := ⟨hrow.nil⟩
  have HE : Hid (∀ w' g c, Own w' w.heap.size (.slice (some ⟨g, 0, none⟩) n c) ((lst bs n).set (a + 1) 141) → Below w.heap.size w w' → RlxEnd n a bs w (.returned (.tuple #[.int .u8 141, .slice (some ⟨g, 0, none⟩) n c, .bool true])) w') := ⟨fun w' g c h1 h2 => ⟨g, c, rfl, h1, h2⟩⟩
  obtain ⟨b, off, rfl, hc⟩ : ∃ b off, ao = some ⟨b, off, none⟩ ∧ ∀ i, i < n → w.cell? ⟨b, off + i, none⟩ = some (.int .u8 (bs i)) := by
    rcases hrow.row with h | h
    · omega
    · exact h
  have c0 := hc a (by omega)
  have c1 := hc (a + 1) (by omega)
  have c2 := hc (a + 2) (by omega)
  clear hrow hc
  have h3 : ¬ ((a : Int) + 3 < 3) := by omega
  have h4 : ¬ ((n : Int) - 4 < (a : Int) + 3) := by omega
  have e9 : (a : Int) + 3 - 3 = a := by omega
  have e8 : ((a : Int) + 3 - 2).toNat = a + 1 := by omega
  have e7 : ((a : Int) + 3 - 1).toNat = a + 2 := by omega
  have i1 : a < n := by omega
  have i2 : a + 1 < n := by omega
  have i3 : a + 2 < n := by omega
  obtain ⟨x, hx⟩ : ∃ x, bs a = x := ⟨_, rfl⟩
  obtain ⟨y, hy⟩ : ∃ x, bs (a + 1) = x := ⟨_, rfl⟩
  obtain ⟨z, hz⟩ : ∃ x, bs (a + 2) = x := ⟨_, rfl⟩
  rw [hx, hy, hz] at hl
  rw [hx] at c0
  rw [hy] at c1
  rw [hz] at c2
  clear hx hy hz
  obtain ⟨b1, h1⟩ : ∃ q, (y != 139) = q := ⟨_, rfl⟩
  obtain ⟨b2, h2⟩ : ∃ q, (bits .and .u8 z 199 != 5) = q := ⟨_, rfl⟩
  obtain ⟨b3, h5⟩ : ∃ q, (x != 72) = q := ⟨_, rfl⟩
  obtain ⟨b4, h6⟩ : ∃ q, (x != 76) = q := ⟨_, rfl⟩
  rw [h1, h2, h5, h6] at hl
  go_enter Try.func26, Try.ntmps26
  cases b1
  · cases b2
    · have hq : (b3 && b4) = false := by
        clear h5 h6
        revert hl
        cases b3 <;> cases b4 <;> decide
      clear hl
      cases b3
      all_goals (try cases b4)
      all_goals first | (cases hq; done) | skip
      all_goals
        clear hq
        go_upto_region 3 with (fail)
        go_upto_region 4 with (at_builtin; refine append_row _ rfl _ _ rfl w.heap.size w.heap.size 0 0 [] rfl (Own.empty w _ (Nat.le_refl _)) (some ⟨b, off, none⟩) n cap bs rfl ((HR.out _ (Below.refl _ _)).alloc _) HZ.out n (by omega) (by simp; omega) (by simp) ?_; intro g2 k2 w2 hown q1 q2 hbel; have HO : Hid (Own w2 w.heap.size (.slice (some ⟨g2, 0, none⟩) n k2) (lst bs n)) := ⟨by simpa using hown⟩; have HB3 : Hid (Below w.heap.size w w2) := ⟨((Below.refl _ _).alloc (Nat.le_refl _) _).trans hbel⟩; clear hown hbel q1 q2)
        have hln : (lst bs n).length = n := lst_len _ _
        have h8 : Own w2 w.heap.size (.slice (some ⟨g2, 0, none⟩) (lst bs n).length k2) (lst bs n) := by rw [hln]; exact HO.out
        have hcell := World.ownsRow.cellAt h8 (a + 1) (by rw [hln]; omega)
        have hfz := World.ownsRow.frozenAt h8 (a + 1)
        rw [List.getElem?_map, lst_at? _ n (a + 1) (by omega)] at hcell
        have HST : Hid _ := ⟨HO.out.setB (a + 1) 141⟩
        have HO5 : Hid (Own (w2.setCell ⟨g2, a + 1, none⟩ (.int .u8 141)) w.heap.size (.slice (some ⟨g2, 0, none⟩) n k2) ((lst bs n).set (a + 1) 141)) := ⟨by rw [lst_set]; exact HST.out.1⟩
        have HB5 : Hid (Below w.heap.size w (w2.setCell ⟨g2, a + 1, none⟩ (.int .u8 141))) := ⟨HB3.out.grown HST.out.2 HB3.out.size (fun q e => by cases e; exact HO.out.block g2 rfl)⟩
        clear h8 hln HO HB3 HST
        go_wp2
        go_ret3
        exact HE.out _ g2 k2 HO5.out HB5.out
    · cases hl
  · cases hl
/-- Both Relaxes. -/
def RlxU (n : Nat) (bs : Nat → Int) (t : Int) (w : World) (e : Ending) (w' : World) : Prop :=
  (relB bs n t = false ∧ e = .returned (.tuple #[.int .u8 0, .slice none 0 0, .bool false]) ∧ Below w.heap.size w w') ∨
  (relB bs n t = true ∧ ∃ a : Nat, t = (a : Int) + 3 ∧ a + 7 ≤ n ∧ ldB (bs a) (bs (a + 1)) (bs (a + 2)) = true ∧ RlxEnd n a bs w e w')
theorem rel_yes {bs : Nat → Int} {n : Nat} {t : Int} (h : relB bs n t = true) : ∃ a : Nat, t = (a : Int) + 3 ∧ a + 7 ≤ n ∧ ldB (bs a) (bs (a + 1)) (bs (a + 2)) = true := by
  unfold relB at h
  simp only [Bool.and_eq_true, decide_eq_true_eq] at h
  obtain ⟨⟨h1, h2⟩, h3⟩ := h
  refine ⟨(t - 3).toNat, by omega, by omega, ?_⟩
  rwa [show (t - 3).toNat = t.toNat - 3 by omega, show t.toNat - 3 + 1 = t.toNat - 2 by omega, show t.toNat - 3 + 2 = t.toNat - 1 by omega]
theorem relax_any (ao : Option Addr) (n cap : Nat) (bs : Nat → Int) (t : Int) (w : World) (hrow : IsRow w ao n cap bs) (hn : n ≤ 140737488355328) (ht : -9223372036854775808 ≤ t ∧ t ≤ 9223372036854775807) :
    Calls Try.prog 25 #[.slice ao n cap, .int .i64 t] w fun e w' => RlxU n bs t w e w' := by
  cases h : relB bs n t
  · refine (relax_no ao n cap bs t w hrow hn ht h).mono ?_
    rintro e w' ⟨h1, h2⟩
    exact .inl ⟨h, h1, h2⟩
  · obtain ⟨a, rfl, h1, h2⟩ := rel_yes h
    refine (relax_yes ao n cap bs a w hrow hn h1 h2).mono ?_
    rintro e w' h3
    exact .inr ⟨h, a, rfl, h1, h2, h3⟩
theorem rrelax_any (ao : Option Addr) (n cap : Nat) (bs : Nat → Int) (t : Int) (w : World) (hrow : IsRow w ao n cap bs) (hn : n ≤ 140737488355328) (ht : -9223372036854775808 ≤ t ∧ t ≤ 9223372036854775807) :
    Calls Try.prog 26 #[.slice ao n cap, .int .i64 t] w fun e w' => RlxU n bs t w e w' := by
  cases h : relB bs n t
  · refine (rrelax_no ao n cap bs t w hrow hn ht h).mono ?_
    rintro e w' ⟨h1, h2⟩
    exact .inl ⟨h, h1, h2⟩
  · obtain ⟨a, rfl, h1, h2⟩ := rel_yes h
    refine (rrelax_yes ao n cap bs a w hrow hn h1 h2).mono ?_
    rintro e w' h3
    exact .inr ⟨h, a, rfl, h1, h2, h3⟩
end Go.Proofs.Ytjbepojopfbajaa

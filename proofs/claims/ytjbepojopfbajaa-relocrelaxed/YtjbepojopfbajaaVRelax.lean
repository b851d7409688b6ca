/- bytes.Clone, isLoad, Relax. -/
import Derived.Test.YtjbepojopfbajaaVBytes
namespace Go.Proofs.Ytjbepojopfbajaa
open Go.ChangeShapes Go.WideShapes Go.ChangeAt Go.RowKit
set_option linter.unusedVariables false
set_option linter.unusedSimpArgs false

theorem sl_nil (a : Addr) (l c : Nat) (W : World) : (binOp .eql 44 (.slice (some a) l c) (.slice none 0 0)).run Try.prog W = .ok (.bool false) W := by kernel_rfl
theorem sl_nil2 (W : World) : (binOp .eql 44 (.slice none 0 0) (.slice none 0 0)).run Try.prog W = .ok (.bool true) W := by kernel_rfl
theorem clone_any (ao : Option Addr) (n cap : Nat) (bs : Nat → Int) (w : World) (hrow : Row w ao n bs) (hz : ao = none → n = 0 ∧ cap = 0) (hs : ∀ a, ao = some a → a.spot = none) (hn : n ≤ 140737488355328) :
    Calls Try.prog 34 #[.slice ao n cap] w fun e w' => ∃ v, e = .returned v ∧ Own w' w.heap.size v (lst bs n) ∧ Below w.heap.size w w' := by
  cases ao with
  | none =>
    obtain ⟨rfl, rfl⟩ := hz rfl
    have h0 := sl_nil2
    clear hrow hz hs
    go_enter Try.func34, Try.ntmps34
    go_wp2
    go_ret
    exact ⟨_, rfl, Own.nil _ _, Below.refl _ _⟩
  | some a =>
    obtain ⟨g, o, sp⟩ := a
    obtain rfl : sp = none := hs _ rfl
    have h0 := sl_nil
    have HR : Hd _ := ⟨hrow⟩
    clear hrow hz hs
    go_enter Try.func34, Try.ntmps34
    go_wp2_with (at_builtin; refine append_row _ rfl _ _ rfl w.heap.size w.heap.size 0 0 [] rfl (Own.empty w _ (Nat.le_refl _)) (some ⟨g, o, none⟩) n cap bs rfl (HR.out.alloc _) (fun e => by cases e) n (by omega) (by simp; omega) (by simp) ?_; intro g' cap' w' hown h1 h2 hbel)
    go_ret
    exact ⟨_, rfl, by simpa using hown, ((Below.refl _ w).alloc (Nat.le_refl _) _).trans hbel⟩

/-- Three bytes ahead of a hole. -/
def ldB (x y z : Int) : Bool := (bits .andNot .u8 x 4 == 72) && (y == 139) && (bits .and .u8 z 199 == 5)
theorem isLoad_any (b off cap : Nat) (x y z : Int) (w : World) (h0 : w.cell? ⟨b, off, none⟩ = some (.int .u8 x)) (h1 : w.cell? ⟨b, off + 1, none⟩ = some (.int .u8 y)) (h2 : w.cell? ⟨b, off + 2, none⟩ = some (.int .u8 z)) :
    Calls Try.prog 35 #[.slice (some ⟨b, off, none⟩) 3 cap] w fun e w' => e = .returned (.bool (ldB x y z)) ∧ w' = w := by
  unfold ldB
  obtain ⟨p, hp⟩ : ∃ p, (bits .andNot .u8 x 4 == 72) = p := ⟨_, rfl⟩
  obtain ⟨q, hq⟩ : ∃ q, (y == 139) = q := ⟨_, rfl⟩
  obtain ⟨r, hr⟩ : ∃ r, (bits .and .u8 z 199 == 5) = r := ⟨_, rfl⟩
  rw [hp, hq, hr]
  go_enter Try.func35, Try.ntmps35
  cases p <;> cases q
  all_goals
    go_wp2
    go_ret
    exact ⟨by simp [*], rfl⟩
/-- May this be relaxed? -/
def relB (bs : Nat → Int) (n : Nat) (t : Int) : Bool := decide (3 ≤ t) && decide (t ≤ (n : Int) - 4) && ldB (bs (t.toNat - 3)) (bs (t.toNat - 2)) (bs (t.toNat - 1))
theorem Own.set {w : World} {base : Nat} {v : Value} {xs : List Int} (h : Own w base v xs) (k : Nat) (x : Int) : (xs.map (Value.int .u8)).set k (.int .u8 x) = (xs.set k x).map (Value.int .u8) := by
  rw [List.map_set]
set_option maxHeartbeats 400000 in
set_option maxRecDepth 20000 in
theorem relax_no (ao : Option Addr) (n cap : Nat) (bs : Nat → Int) (t : Int) (w : World) (hrow : IsRow w ao n cap bs) (hn : n ≤ 140737488355328) (ht : -9223372036854775808 ≤ t ∧ t ≤ 9223372036854775807) (h : relB bs n t = false) :
    Calls Try.prog 25 #[.slice ao n cap, .int .i64 t] w fun e w' => e = .returned (.tuple #[.int .u8 0, .slice none 0 0, .bool false]) ∧ Below w.heap.size w w' := by
  have HB0 : Hd (Below w.heap.size w w) := ⟨Below.refl _ _⟩
  by_cases h3 : t < 3
  · clear h hrow
    go_enter Try.func25, Try.ntmps25
    go_wp2
    go_ret3
    exact ⟨rfl, HB0.out⟩
  · by_cases h4 : (n : Int) - 4 < t
    · have h1 : decide (t < 3) = false := decide_eq_false h3
      have h2 : decide ((n : Int) - 4 < t) = true := decide_eq_true h4
      clear h hrow
      go_enter Try.func25, Try.ntmps25
      go_wp2
      go_ret3
      exact ⟨rfl, HB0.out⟩
    · obtain ⟨a, rfl⟩ : ∃ a : Nat, t = a + 3 := ⟨(t - 3).toNat, by omega⟩
      have hl : ldB (bs a) (bs (a + 1)) (bs (a + 2)) = false := by
        unfold relB at h
        rw [decide_eq_true (by omega), decide_eq_true (by omega)] at h
        have e1 : ((a : Int) + 3).toNat = a + 3 := by omega
        rw [e1] at h
        simpa using h
      obtain ⟨b, off, rfl, hc⟩ : ∃ b off, ao = some ⟨b, off, none⟩ ∧ ∀ i, i < n → w.cell? ⟨b, off + i, none⟩ = some (.int .u8 (bs i)) := by
        rcases hrow.row with h | h
        · omega
        · exact h
      have hfit := hrow.fit
      have HL : Hd _ := ⟨isLoad_any b (off + a) (cap - a) (bs a) (bs (a + 1)) (bs (a + 2)) w (by simpa using hc a (by omega)) (by simpa [Nat.add_assoc] using hc (a + 1) (by omega)) (by simpa [Nat.add_assoc] using hc (a + 2) (by omega))⟩
      rw [hl] at HL
      clear h hrow hc hl
      have e9 : (a : Int) + 3 - 3 = a := by omega
      go_enter Try.func25, Try.ntmps25
      go_wp2_with (go_at_call 35; refine HL.out.mono ?_; rintro e w1 ⟨rfl, rfl⟩)
      go_ret3
      exact ⟨rfl, HB0.out⟩

def RlxEnd (n a : Nat) (bs : Nat → Int) (w : World) (e : Ending) (w' : World) : Prop :=
  ∃ g c, e = .returned (.tuple #[.int .u8 141, .slice (some ⟨g, 0, none⟩) n c, .bool true]) ∧ Own w' w.heap.size (.slice (some ⟨g, 0, none⟩) n c) ((lst bs n).set (a + 1) 141) ∧ Below w.heap.size w w'
set_option maxHeartbeats 400000 in
set_option maxRecDepth 20000 in
theorem relax_yes (ao : Option Addr) (n cap : Nat) (bs : Nat → Int) (a : Nat) (w : World) (hrow : IsRow w ao n cap bs) (hn : n ≤ 140737488355328) (ha : a + 7 ≤ n) (hl : ldB (bs a) (bs (a + 1)) (bs (a + 2)) = true) :
    Calls Try.prog 25 #[.slice ao n cap, .int .i64 ((a : Int) + 3)] w fun e w' => RlxEnd n a bs w e w' := by
  obtain ⟨b, off, rfl, hc⟩ : ∃ b off, ao = some ⟨b, off, none⟩ ∧ ∀ i, i < n → w.cell? ⟨b, off + i, none⟩ = some (.int .u8 (bs i)) := by
    rcases hrow.row with h | h
    · omega
    · exact h
  have hfit := hrow.fit
  have HL : Hd _ := ⟨isLoad_any b (off + a) (cap - a) (bs a) (bs (a + 1)) (bs (a + 2)) w (by simpa using hc a (by omega)) (by simpa [Nat.add_assoc] using hc (a + 1) (by omega)) (by simpa [Nat.add_assoc] using hc (a + 2) (by omega))⟩
  have HC : Hd _ := ⟨clone_any (some ⟨b, off, none⟩) n cap bs w hrow.row (fun e => by cases e) (fun x e => by cases e; rfl) hn⟩
  rw [hl] at HL
  clear hrow hc hl
  have e9 : (a : Int) + 3 - 3 = a := by omega
  have h3 : ¬ ((a : Int) + 3 < 3) := by omega
  have h4 : ¬ ((n : Int) - 4 < (a : Int) + 3) := by omega
  go_enter Try.func25, Try.ntmps25
  go_upto_region 4 with (first
    | (go_at_call 35; refine HL.out.mono ?_; rintro e w1 ⟨rfl, rfl⟩)
    | (go_at_call 34; refine HC.out.mono ?_; rintro e w2 ⟨v, rfl, hown, hb1⟩; have HO : Hd _ := ⟨hown⟩; have HB1 : Hd _ := ⟨hb1⟩; clear hown hb1))
  obtain ⟨g, c, rfl, hg, hgl, _⟩ := HO.out.lies (by rw [lst_len]; omega)
  have hlen := lst_len bs n
  have hst := HO.out.stored (a + 1) (.int .u8 141)
  have hfz := HO.out.frozenAt (a + 1)
  have hcell := HO.out.cellAt (a + 1) (by rw [lst_len]; omega)
  have hat : ((lst bs n).map (Value.int .u8))[a + 1]? = some (.int .u8 (bs (a + 1))) := by
    rw [List.getElem?_map, lst_at? bs n (a + 1) (by omega)]; rfl
  rw [hat] at hcell
  rw [hlen] at hst HO ⊢
  have HN : Hd (Own (w2.setCell ⟨g, a + 1, none⟩ (.int .u8 141)) w1.heap.size (.slice (some ⟨g, 0, none⟩) n c) ((lst bs n).set (a + 1) 141)) := ⟨by
    have h := hst.1
    rw [Own.set HO.out] at h
    unfold Own
    rw [List.length_set, hlen]
    exact h⟩
  have HB2 : Hd (Below w1.heap.size w1 (w2.setCell ⟨g, a + 1, none⟩ (.int .u8 141))) := ⟨HB1.out.grown hst.2 HB1.out.size (fun k e => by cases e; exact hg)⟩
  clear hst hat HC HL HB1 HO
  have e8 : (a : Int) + 3 - 2 = (a + 1 : Nat) := by omega
  have h5 : ((a + 1 : Nat) : Int).toNat = a + 1 := by omega
  go_wp2
  go_ret3
  exact ⟨g, c, rfl, HN.out, HB2.out⟩
theorem lst_set (f : Nat → Int) (n k : Nat) (x : Int) : (lst f n).set k x = lst (fun i => if i = k then x else f i) n := by
  unfold lst
  apply List.ext_getElem?
  intro i
  by_cases hi : i < n
  · by_cases e : k = i
    · subst e
      rw [List.getElem?_set_self (by simpa using hi)]
      simp [hi]
    · rw [List.getElem?_set_ne e]
      simp [hi, show ¬ i = k from fun h => e h.symm]
  · rw [List.getElem?_eq_none (by simp; omega), List.getElem?_eq_none (by simp; omega)]
theorem Own.setB {w : World} {base g n c : Nat} {f : Nat → Int} (h : Own w base (.slice (some ⟨g, 0, none⟩) n c) (lst f n)) (k : Nat) (x : Int) : Own (w.setCell ⟨g, k, none⟩ (.int .u8 x)) base (.slice (some ⟨g, 0, none⟩) n c) (lst (fun i => if i = k then x else f i) n) ∧ w.grownBy (w.setCell ⟨g, k, none⟩ (.int .u8 x)) (some g) := by
  have hv : (.slice (some ⟨g, 0, none⟩) n c : Value) = .slice (some ⟨g, 0, none⟩) (lst f n).length c := by rw [lst_len]
  have h2 : Own w base (.slice (some ⟨g, 0, none⟩) (lst f n).length c) (lst f n) := by rw [lst_len]; exact h
  have hst := World.ownsRow.stored h2 k (.int .u8 x)
  refine ⟨?_, hst.2⟩
  have h3 := hst.1
  rw [← List.map_set, lst_set, lst_len] at h3
  unfold Own
  rw [lst_len]
  exact h3
theorem own_isRow {w : World} {base n c : Nat} {va : Option Addr} {f : Nat → Int} (h : Own w base (.slice va n c) (lst f n)) (hf : ∀ i, 0 ≤ f i ∧ f i < 256) : IsRow w va n c f := by
  rcases h.2 with ⟨hv, hn⟩ | ⟨g, cap, cur, hv, hb, hg, h1, h2, h3, h4⟩
  · injection hv with e1 e2 e3
    subst e1 e2 e3
    exact ⟨.inl rfl, hf, Nat.le_refl _, by omega, fun _ => ⟨rfl, rfl⟩⟩
  · injection hv with e1 e2 e3
    subst e1 e3
    rw [lst_len] at h1
    refine ⟨?_, hf, h1, by unfold maxLen at h2; omega, fun e => by cases e⟩
    by_cases h0 : n = 0
    · exact .inl h0
    · refine .inr ⟨g, 0, rfl, fun i hi => ?_⟩
      rw [Nat.zero_add]
      obtain ⟨g2, c2, e, _, _, hc⟩ := h.lies (by rw [lst_len]; omega)
      injection e with e1 e2 e3
      injection e1 with e1
      injection e1 with e1
      subst e1
      rw [hc i (by rw [lst_len]; exact hi), lst_at f n i hi]
/-- Both Relaxes. -/
def RlxU (n : Nat) (bs : Nat → Int) (t : Int) (w : World) (e : Ending) (w' : World) : Prop :=
  (relB bs n t = false ∧ e = .returned (.tuple #[.int .u8 0, .slice none 0 0, .bool false]) ∧ Below w.heap.size w w') ∨
  (relB bs n t = true ∧ ∃ a : Nat, t = (a : Int) + 3 ∧ a + 7 ≤ n ∧ ldB (bs a) (bs (a + 1)) (bs (a + 2)) = true ∧ RlxEnd n a bs w e w')
theorem rel_yes {bs : Nat → Int} {n : Nat} {t : Int} (h : relB bs n t = true) : ∃ a : Nat, t = (a : Int) + 3 ∧ a + 7 ≤ n ∧ ldB (bs a) (bs (a + 1)) (bs (a + 2)) = true := by
  unfold relB at h
  simp only [Bool.and_eq_true, decide_eq_true_eq] at h
  obtain ⟨⟨h1, h2⟩, h3⟩ := h
  refine ⟨(t - 3).toNat, by omega, by omega, ?_⟩
  rwa [show (t - 3).toNat = t.toNat - 3 by omega, show t.toNat - 3 + 1 = t.toNat - 2 by omega, show t.toNat - 3 + 2 = t.toNat - 1 by omega]
theorem relax_any (ao : Option Addr) (n cap : Nat) (bs : Nat → Int) (t : Int) (w : World) (hrow : IsRow w ao n cap bs) (hn : n ≤ 140737488355328) (ht : -9223372036854775808 ≤ t ∧ t ≤ 9223372036854775807) :
    Calls Try.prog 25 #[.slice ao n cap, .int .i64 t] w fun e w' => RlxU n bs t w e w' := by
  cases h : relB bs n t
  · refine (relax_no ao n cap bs t w hrow hn ht h).mono ?_
    rintro e w' ⟨h1, h2⟩
    exact .inl ⟨h, h1, h2⟩
  · obtain ⟨a, rfl, h1, h2⟩ := rel_yes h
    refine (relax_yes ao n cap bs a w hrow hn h1 h2).mono ?_
    rintro e w' h3
    exact .inr ⟨h, a, rfl, h1, h2, h3⟩
theorem ld_x {x : Int} (h : 0 ≤ x ∧ x < 256) : (bits .andNot .u8 x 4 == 72) = !((x != 72) && (x != 76)) := by
  have : ∀ k : Nat, k < 256 → (bits .andNot .u8 (k : Int) 4 == 72) = !(((k : Int) != 72) && ((k : Int) != 76)) := by decide +kernel
  have h2 := this x.toNat (by omega)
  rwa [show ((x.toNat : Nat) : Int) = x by omega] at h2
theorem ld_eq {x y z : Int} (h : 0 ≤ x ∧ x < 256) : ldB x y z = !((y != 139) || (bits .and .u8 z 199 != 5) || ((x != 72) && (x != 76))) := by
  unfold ldB
  rw [ld_x h]
  have e1 : (y != 139) = !(y == 139) := rfl
  have e2 : (bits .and .u8 z 199 != 5) = !(bits .and .u8 z 199 == 5) := rfl
  rw [e1, e2]
  cases (y == 139) <;> cases (bits .and .u8 z 199 == 5) <;> cases ((x != 72) && (x != 76)) <;> rfl
end Go.Proofs.Ytjbepojopfbajaa

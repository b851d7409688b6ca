/- Where something holds: entries, symbols. -/
import Derived.Test.YtgoaegembijdcaaRRight
namespace Go.Proofs.Ytgoaegembijdcaa
open Go.ChangeShapes Go.WideShapes Go.ChangeAt Go.RowKit Go.Maps
set_option linter.unusedVariables false
set_option linter.unusedSimpArgs false

structure EntAt (w : World) (b o : Nat) (s : En) : Prop where
  c0 : w.cell? ⟨b, o, none⟩ = some (.string s.nm)
  c1 : w.cell? ⟨b, o + 1, none⟩ = some (.int .i64 s.o)
  c2 : w.cell? ⟨b, o + 2, none⟩ = some (.int .i64 s.k)
  c3 : w.cell? ⟨b, o + 3, none⟩ = some (.int .i64 s.b)
  c4 : w.cell? ⟨b, o + 4, none⟩ = some (.int .i64 s.t)
theorem EntAt.below {w w' : World} {b o : Nat} {s : En} (h : EntAt w b o s) {B : Nat} (hb : Below B w w') (hB : w.heap.size ≤ B) : EntAt w' b o s := by
  have k : b < B := Nat.lt_of_lt_of_le (World.block_lt_of_cell? w ⟨b, o, none⟩ h.c0) hB
  exact ⟨(hb.cell (p := ⟨b, o, none⟩) k).trans h.c0, (hb.cell (p := ⟨b, o + 1, none⟩) k).trans h.c1, (hb.cell (p := ⟨b, o + 2, none⟩) k).trans h.c2, (hb.cell (p := ⟨b, o + 3, none⟩) k).trans h.c3, (hb.cell (p := ⟨b, o + 4, none⟩) k).trans h.c4⟩
def Ents (w : World) (ao : Option Addr) (l : List En) : Prop :=
  l = [] ∨ ∃ b off, ao = some ⟨b, off, none⟩ ∧ ∀ i, i < l.length → EntAt w b (off + i * 5) (l.getD i En.zero)
theorem Ents.below {w w' : World} {ao : Option Addr} {l : List En} (h : Ents w ao l) {B : Nat} (hb : Below B w w') (hB : w.heap.size ≤ B) : Ents w' ao l := by
  rcases h with h | ⟨b, off, e, h⟩
  · exact .inl h
  · exact .inr ⟨b, off, e, fun i hi => (h i hi).below hb hB⟩
def idxP {α : Type} (p : α → Bool) (l : List α) : Int := match l.findIdx? p with | some i => (i : Int) | none => -1
theorem idxP_none {α : Type} {p : α → Bool} {l : List α} (h : l.all (fun x => !p x) = true) : idxP p l = -1 := by
  unfold idxP
  rw [List.findIdx?_eq_none_iff.2 (fun x hx => by have := List.all_eq_true.1 h x hx; simpa using this)]
theorem idxP_at {α : Type} {p : α → Bool} {l : List α} (k : Nat) (hk : k < l.length) (h : (l.take k).all (fun x => !p x) = true) (hp : p l[k] = true) : idxP p l = (k : Int) := by
  unfold idxP
  have : l.findIdx? p = some k := by
    rw [List.findIdx?_eq_some_iff_getElem]
    refine ⟨hk, hp, fun j hj => ?_⟩
    have := List.all_eq_true.1 h ((l.take k)[j]'(by simp; omega)) (List.getElem_mem _)
    simpa using this
  rw [this]
theorem idxP_pos {α : Type} (p : α → Bool) (l : List α) : decide (0 ≤ idxP p l) = l.any p := by
  unfold idxP
  cases h : l.findIdx? p with
  | none =>
    rw [List.findIdx?_eq_none_iff] at h
    have : l.any p = false := by rw [List.any_eq_false]; intro x hx; rw [h x hx]; simp
    rw [this]; rfl
  | some i =>
    obtain ⟨hi, hp, _⟩ := List.findIdx?_eq_some_iff_getElem.1 h
    have : l.any p = true := List.any_eq_true.2 ⟨_, List.getElem_mem hi, hp⟩
    rw [this]
    simp
theorem nm_tl (a b : ByteArray) : (a.toList == b.toList) = nmB a b := by
  unfold nmB
  rw [ByteArray.toList_eq, ByteArray.toList_eq]
  by_cases h : a = b
  · subst h; simp
  · rw [decide_eq_false h, beq_eq_false_iff_ne]
    exact fun e => h (ByteArray.ext (Array.toList_inj.1 e))

set_option maxHeartbeats 2000000 in
set_option maxRecDepth 10000 in
theorem ixE_any (J : Nat) (p : En → Bool) (cb : Array Value) (ao : Option Addr) (c : Nat) (l : List En) (w : World) (hl : l.length ≤ 9223372036854775806) (hr : Ents w ao l)
    (hent : ∀ args w, (callFunc J args).run Try.prog w = .ok (.enter J args) w)
    (hop : ∀ s W, Below w.heap.size w W → Calls Try.prog J (#[En.val s] ++ cb) W fun e w' => e = .returned (.bool (p s)) ∧ Below W.heap.size W w') :
    Calls Try.prog 21 #[.slice ao l.length c, .func (.func J) #[] cb] w fun e w' => e = .returned (.int .i64 (idxP p l)) ∧ Below w.heap.size w w' := by
  have HO : Hid (∀ s W, Below w.heap.size w W → Calls Try.prog J (#[En.val s] ++ cb) W fun e w' => e = .returned (.bool (p s)) ∧ Below W.heap.size W w') := ⟨hop⟩
  have HR : Hid (Ents w ao l) := ⟨hr⟩
  have HN : Hid (l.all (fun x => !p x) = true → idxP p l = -1) := ⟨idxP_none⟩
  have HA : Hid (∀ k (hk : k < l.length), (l.take k).all (fun x => !p x) = true → p l[k] = true → idxP p l = (k : Int)) := ⟨fun k hk => idxP_at k hk⟩
  have HF : Hid (Below w.heap.size w w) := ⟨Below.refl _ _⟩
  generalize idxP p l = X at *
  clear hop hr
  go_enter Try.func21, Try.ntmps21
  go_wp2
  go_loopw [8] (fun i wr => ∃ k : Nat, k ≤ l.length ∧ i = .int .i64 k ∧ Hid ((l.take k).all (fun x => !p x) = true ∧ Below w.heap.size w wr)) (fun i _ => l.length - (intOf i).toNat)
  case atStart => exact ⟨0, by omega, rfl, ⟨by simp, HF.out⟩⟩
  case round =>
    obtain ⟨k, hk, rfl, HW⟩ := hrel
    by_cases hlt : k < l.length
    · obtain ⟨b, off, rfl, hcell⟩ : ∃ b off, ao = some ⟨b, off, none⟩ ∧ ∀ i, i < l.length → EntAt wr b (off + i * 5) (l.getD i En.zero) := by
        rcases HR.out.below HW.out.2 (Nat.le_refl _) with h | h
        · subst h; simp at hlt
        · exact h
      obtain ⟨c0, c1, c2, c3, c4⟩ := hcell k hlt
      have hget : l.getD k En.zero = l[k] := by simp [hlt]
      rw [hget] at c0 c1 c2 c3 c4
      have HX := HA.out k hlt HW.out.1
      have HT : Hid (p l[k] = false → (l.take (k + 1)).all (fun x => !p x) = true) := ⟨fun h => by rw [all_take_succ _ _ _ hlt, HW.out.1, h]; rfl⟩
      have HC : Hid _ := ⟨HO.out l[k] wr HW.out.2⟩
      have HXX : Hid _ := ⟨HX⟩
      obtain ⟨s, hs⟩ : ∃ s, s = l[k] := ⟨_, rfl⟩
      rw [← hs] at c0 c1 c2 c3 c4 HT HC HXX
      clear hs hcell hget HX
      generalize p s = q at *
      obtain ⟨nm, o1, o2, o3, o4⟩ := s
      dsimp only [En.val] at *
      cases q
      · have hT := HT.out rfl
        go_wp2_with (go_at_fn J; (with_reducible refine HC.out.mono ?_); rintro e w3 ⟨rfl, hb3⟩)
        go_roundw
        case rel => exact ⟨k + 1, hlt, by go_num, ⟨hT, HW.out.2.trans (hb3.mono HW.out.2.size)⟩⟩
        case measure => simp [intOf]; omega
      · have hX := HXX.out rfl
        go_wp2_with (go_at_fn J; (with_reducible refine HC.out.mono ?_); rintro e w3 ⟨rfl, hb3⟩)
        go_ret
        exact ⟨by rw [hX]; rfl, HW.out.2.trans (hb3.mono HW.out.2.size)⟩
    · obtain rfl : k = l.length := by omega
      have hN := HN.out (by have := HW.out.1; rwa [List.take_of_length_le (Nat.le_refl _)] at this)
      go_wp2
      go_ret
      exact ⟨by rw [hN]; rfl, HW.out.2⟩

set_option maxHeartbeats 2000000 in
set_option maxRecDepth 10000 in
theorem ixY_any (J : Nat) (p : Sym → Bool) (cb : Array Value) (ao : Option Addr) (c : Nat) (l : List Sym) (w : World) (hl : l.length ≤ 9223372036854775806) (hr : Syms w ao l)
    (hent : ∀ args w, (callFunc J args).run Try.prog w = .ok (.enter J args) w)
    (hop : ∀ s W, Below w.heap.size w W → Calls Try.prog J (#[Sym.val s] ++ cb) W fun e w' => e = .returned (.bool (p s)) ∧ Below W.heap.size W w') :
    Calls Try.prog 25 #[.slice ao l.length c, .func (.func J) #[] cb] w fun e w' => e = .returned (.int .i64 (idxP p l)) ∧ Below w.heap.size w w' := by
  have HO : Hid (∀ s W, Below w.heap.size w W → Calls Try.prog J (#[Sym.val s] ++ cb) W fun e w' => e = .returned (.bool (p s)) ∧ Below W.heap.size W w') := ⟨hop⟩
  have HR : Hid (Syms w ao l) := ⟨hr⟩
  have HN : Hid (l.all (fun x => !p x) = true → idxP p l = -1) := ⟨idxP_none⟩
  have HA : Hid (∀ k (hk : k < l.length), (l.take k).all (fun x => !p x) = true → p l[k] = true → idxP p l = (k : Int)) := ⟨fun k hk => idxP_at k hk⟩
  have HF : Hid (Below w.heap.size w w) := ⟨Below.refl _ _⟩
  generalize idxP p l = X at *
  clear hop hr
  go_enter Try.func25, Try.ntmps25
  go_wp2
  go_loopw [8] (fun i wr => ∃ k : Nat, k ≤ l.length ∧ i = .int .i64 k ∧ Hid ((l.take k).all (fun x => !p x) = true ∧ Below w.heap.size w wr)) (fun i _ => l.length - (intOf i).toNat)
  case atStart => exact ⟨0, by omega, rfl, ⟨by simp, HF.out⟩⟩
  case round =>
    obtain ⟨k, hk, rfl, HW⟩ := hrel
    by_cases hlt : k < l.length
    · obtain ⟨b, off, rfl, hcell⟩ : ∃ b off, ao = some ⟨b, off, none⟩ ∧ ∀ i, i < l.length → SymAt wr b (off + i * 6) (l.getD i Sym.none) := by
        rcases HR.out.below HW.out.2 (Nat.le_refl _) with h | h
        · subst h; simp at hlt
        · exact h
      obtain ⟨c0, c1, c2, c3, c4, c5⟩ := hcell k hlt
      have hget : l.getD k Sym.none = l[k] := by simp [hlt]
      rw [hget] at c0 c1 c2 c3 c4 c5
      have HX := HA.out k hlt HW.out.1
      have HT : Hid (p l[k] = false → (l.take (k + 1)).all (fun x => !p x) = true) := ⟨fun h => by rw [all_take_succ _ _ _ hlt, HW.out.1, h]; rfl⟩
      have HC : Hid _ := ⟨HO.out l[k] wr HW.out.2⟩
      have HXX : Hid _ := ⟨HX⟩
      obtain ⟨s, hs⟩ : ∃ s, s = l[k] := ⟨_, rfl⟩
      rw [← hs] at c0 c1 c2 c3 c4 c5 HT HC HXX
      clear hs hcell hget HX
      generalize p s = q at *
      obtain ⟨nm, sc, o2, o3, o4, o5⟩ := s
      dsimp only [Sym.val] at *
      cases q
      · have hT := HT.out rfl
        go_wp2_with (go_at_fn J; (with_reducible refine HC.out.mono ?_); rintro e w3 ⟨rfl, hb3⟩)
        go_roundw
        case rel => exact ⟨k + 1, hlt, by go_num, ⟨hT, HW.out.2.trans (hb3.mono HW.out.2.size)⟩⟩
        case measure => simp [intOf]; omega
      · have hX := HXX.out rfl
        go_wp2_with (go_at_fn J; (with_reducible refine HC.out.mono ?_); rintro e w3 ⟨rfl, hb3⟩)
        go_ret
        exact ⟨by rw [hX]; rfl, HW.out.2.trans (hb3.mono HW.out.2.size)⟩
    · obtain rfl : k = l.length := by omega
      have hN := HN.out (by have := HW.out.1; rwa [List.take_of_length_le (Nat.le_refl _)] at this)
      go_wp2
      go_ret
      exact ⟨by rw [hN]; rfl, HW.out.2⟩

theorem coY_any (J : Nat) (p : Sym → Bool) (cb : Array Value) (ao : Option Addr) (c : Nat) (l : List Sym) (w : World) (hl : l.length ≤ 9223372036854775806) (hr : Syms w ao l)
    (hent : ∀ args w, (callFunc J args).run Try.prog w = .ok (.enter J args) w)
    (hop : ∀ s W, Below w.heap.size w W → Calls Try.prog J (#[Sym.val s] ++ cb) W fun e w' => e = .returned (.bool (p s)) ∧ Below W.heap.size W w') :
    Calls Try.prog 23 #[.slice ao l.length c, .func (.func J) #[] cb] w fun e w' => e = .returned (.bool (l.any p)) ∧ Below w.heap.size w w' := by
  have HI : Hid _ := ⟨ixY_any J p cb ao c l w hl hr hent hop⟩
  have HP : Hid (decide (0 ≤ idxP p l) = l.any p) := ⟨idxP_pos p l⟩
  generalize idxP p l = X at *
  generalize l.any p = q at *
  clear hr hop hent
  go_enter Try.func23, Try.ntmps23
  go_wp2_with (go_at_call 25; (with_reducible refine HI.out.mono ?_); rintro e w' ⟨rfl, hb⟩)
  go_ret
  exact ⟨by rw [← HP.out]; rfl, hb⟩

theorem clE_any (s : En) (n : ByteArray) (nb : Nat) (W : World) (h : W.cell? ⟨nb, 0, none⟩ = some (.string n)) : Calls Try.prog 22 #[s.val, .pointer (some ⟨nb, 0, none⟩)] W fun e w' => e = .returned (.bool (nmB s.nm n)) ∧ Below W.heap.size W w' := by
  obtain ⟨nm, o1, o2, o3, o4⟩ := s
  have hl := World.block_lt_of_cell? W _ h
  have hl2 : nb ≠ W.heap.size := by have : nb < W.heap.size := hl; omega
  obtain ⟨q, hq⟩ : ∃ q, nmB nm n = q := ⟨_, rfl⟩
  have hq2 : (nm.toList == n.toList) = q := by rw [nm_tl, hq]
  have HB : Hid _ := ⟨(Below.refl W.heap.size W).alloc (Nat.le_refl _) (.cells #[.string nm, .int .i64 o1, .int .i64 o2, .int .i64 o3, .int .i64 o4] 27)⟩
  dsimp only [En.val]
  rw [hq]
  clear hq
  go_enter Try.func22, Try.ntmps22
  go_wp2
  go_ret
  exact ⟨rfl, HB.out⟩
theorem cl1_any (s : Sym) (n : ByteArray) (nb : Nat) (W : World) (h : W.cell? ⟨nb, 0, none⟩ = some (.string n)) : Calls Try.prog 24 #[s.val, .pointer (some ⟨nb, 0, none⟩)] W fun e w' => e = .returned (.bool (nmB s.nm n)) ∧ Below W.heap.size W w' := by
  obtain ⟨nm, sc, o2, o3, o4, o5⟩ := s
  have hl := World.block_lt_of_cell? W _ h
  have hl2 : nb ≠ W.heap.size := by have : nb < W.heap.size := hl; omega
  obtain ⟨q, hq⟩ : ∃ q, nmB nm n = q := ⟨_, rfl⟩
  have hq2 : (nm.toList == n.toList) = q := by rw [nm_tl, hq]
  have HB : Hid _ := ⟨(Below.refl W.heap.size W).alloc (Nat.le_refl _) (.cells #[.string nm, .string sc, .int .i64 o2, .int .i64 o3, .int .i64 o4, .int .i64 o5] 54)⟩
  dsimp only [Sym.val]
  rw [hq]
  clear hq
  go_enter Try.func24, Try.ntmps24
  go_wp2
  go_ret
  exact ⟨rfl, HB.out⟩
theorem cl2_any (s : Sym) (n : ByteArray) (nb : Nat) (W : World) (h : W.cell? ⟨nb, 0, none⟩ = some (.string n)) : Calls Try.prog 26 #[s.val, .pointer (some ⟨nb, 0, none⟩)] W fun e w' => e = .returned (.bool (nmB s.nm n && s.b == 0)) ∧ Below W.heap.size W w' := by
  obtain ⟨nm, sc, o2, o3, o4, o5⟩ := s
  have hl := World.block_lt_of_cell? W _ h
  have hl2 : nb ≠ W.heap.size := by have : nb < W.heap.size := hl; omega
  obtain ⟨q, hq⟩ : ∃ q, nmB nm n = q := ⟨_, rfl⟩
  have hq2 : (nm.toList == n.toList) = q := by rw [nm_tl, hq]
  obtain ⟨z, hz⟩ : ∃ z, (o4 == 0) = z := ⟨_, rfl⟩
  have HB : Hid _ := ⟨(Below.refl W.heap.size W).alloc (Nat.le_refl _) (.cells #[.string nm, .string sc, .int .i64 o2, .int .i64 o3, .int .i64 o4, .int .i64 o5] 54)⟩
  dsimp only [Sym.val]
  rw [hq, hz]
  clear hq
  cases q
  all_goals
    go_enter Try.func26, Try.ntmps26
    go_wp2
    go_ret
    exact ⟨rfl, HB.out⟩
theorem enE : ∀ args w, (callFunc 22 args).run Try.prog w = .ok (.enter 22 args) w := enters_of Try.func22 (by kernel_rfl) rfl
theorem en1 : ∀ args w, (callFunc 24 args).run Try.prog w = .ok (.enter 24 args) w := enters_of Try.func24 (by kernel_rfl) rfl
theorem en2 : ∀ args w, (callFunc 26 args).run Try.prog w = .ok (.enter 26 args) w := enters_of Try.func26 (by kernel_rfl) rfl
end Go.Proofs.Ytgoaegembijdcaa

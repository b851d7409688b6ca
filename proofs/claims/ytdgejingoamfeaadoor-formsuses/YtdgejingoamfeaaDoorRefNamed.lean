/- The document's named. -/
import Derived.Test.YtdgejingoamfeaaDoorRefName
import Derived.Test.YtdgejingoamfeaaDoorMay
import Derived.BigQuiet
import Derived.Deep.QuietTactic
namespace Go.Proofs.YtdgejingoamfeaaDoor
open Go.ChangeShapes Go.WideShapes Go.ChangeAt Go.RowKit
set_option linter.unusedVariables false

/-- May the name and the mod be? -/
def namedB (o : O) (zs : List Int) : Bool :=
  if empB o.nm then o.m == 0 && fitsSB o.n else (isNameB o.nm && fitsSB o.n) && (zs.contains o.m && ((o.m != 2 && o.m != 3) || o.n == 0))

set_option maxHeartbeats 2000000 in
theorem refNamed_emp (o : O) (b n c : Nat) (w : World) (he : o.nm.toList.isEmpty = true) :
    Calls Tryd.prog 89 #[o.val, .slice (some ⟨b, 0, none⟩) n c] w fun e w' => e = .returned (.bool (o.m == 0 && fitsSB o.n)) ∧ Below w.heap.size w w' := by
  unfold O.val
  obtain ⟨a, ha⟩ : ∃ x, (o.m == 0) = x := ⟨_, rfl⟩
  rw [ha]
  rcases a with _ | _
  all_goals
    go_enter Tryd.func89, Tryd.ntmps89
    go_wp2_with (go_at_call 67; refine (int32_any _ _).mono ?_; rintro e w1 ⟨rfl, hw⟩; subst w1)
    go_ret
    exact ⟨rfl, bel_alloc (Below.refl _ _) _⟩

set_option maxHeartbeats 2000000 in
theorem refNamed_bad (o : O) (b n c : Nat) (w : World) (hs : o.nm.size ≤ 9223372036854775807) (he : o.nm.toList.isEmpty = false) (h : (isNameB o.nm && fitsSB o.n) = false) :
    Calls Tryd.prog 89 #[o.val, .slice (some ⟨b, 0, none⟩) n c] w fun e w' => e = .returned (.bool false) ∧ Below w.heap.size w w' := by
  have CN : Hid (∀ v, Calls Tryd.prog 99 #[.string o.nm] v fun e w' => e = .returned (.bool (isNameB o.nm)) ∧ w' = v) := ⟨fun v => refName_any o.nm v hs⟩
  have CI : Hid (∀ v, Calls Tryd.prog 67 #[.int .i64 o.n] v fun e w' => e = .returned (.bool (fitsSB o.n)) ∧ w' = v) := ⟨fun v => int32_any o.n v⟩
  unfold O.val
  generalize isNameB o.nm = x at *
  generalize fitsSB o.n = y at *
  clear hs
  rcases x with _ | _
  case' true => (rcases y with _ | _; rotate_left; cases h)
  all_goals
    clear h
    go_enter Tryd.func89, Tryd.ntmps89
    go_wp2_with (first
      | (go_at_call 99; refine (CN.out _).mono ?_; rintro e w1 ⟨rfl, hw⟩; subst w1)
      | (go_at_call 67; refine (CI.out _).mono ?_; rintro e w1 ⟨rfl, hw⟩; subst w1))
    go_ret
    exact ⟨rfl, bel_alloc (Below.refl _ _) _⟩

theorem contains_of {zs : List Int} {m : Int} {k : Nat} (hk : k < zs.length) (h : zs.getD k 0 = m) : zs.contains m = true := by
  rw [List.contains_iff_mem]
  rw [← h, List.getD, List.getElem?_eq_getElem hk]
  exact List.getElem_mem ..
theorem not_contains_of {zs : List Int} {m : Int} (h : ∀ j, j < zs.length → zs.getD j 0 ≠ m) : zs.contains m = false := by
  rw [Bool.eq_false_iff]
  intro hc
  rw [List.contains_iff_mem] at hc
  obtain ⟨j, hj, rfl⟩ := List.mem_iff_getElem.1 hc
  exact h j hj (by rw [List.getD, List.getElem?_eq_getElem hj]; rfl)

set_option maxHeartbeats 4000000 in
theorem refNamed_good (o : O) (b n c : Nat) (zs : List Int) (w : World) (hs : o.nm.size ≤ 9223372036854775807) (he : o.nm.toList.isEmpty = false) (h1 : isNameB o.nm = true) (h2 : fitsSB o.n = true) (hn : n = zs.length) (hb : n ≤ 100) (hc : Ints w b zs) :
    Calls Tryd.prog 89 #[o.val, .slice (some ⟨b, 0, none⟩) n c] w fun e w' => e = .returned (.bool (zs.contains o.m && ((o.m != 2 && o.m != 3) || o.n == 0))) ∧ Below w.heap.size w w' := by
  have CN : Hid (∀ v, Calls Tryd.prog 99 #[.string o.nm] v fun e w' => e = .returned (.bool true) ∧ w' = v) := ⟨fun v => h1 ▸ refName_any o.nm v hs⟩
  have CI : Hid (∀ v, Calls Tryd.prog 67 #[.int .i64 o.n] v fun e w' => e = .returned (.bool true) ∧ w' = v) := ⟨fun v => h2 ▸ int32_any o.n v⟩
  have HC : Hid (Ints w b zs) := ⟨hc⟩
  have hblt : Hid (0 < zs.length → b < w.heap.size) := ⟨fun h => World.block_lt_of_cell? w _ (hc 0 h)⟩
  obtain ⟨r, HR⟩ : ∃ r, Hid ((zs.contains o.m && ((o.m != 2 && o.m != 3) || o.n == 0)) = r) := ⟨_, ⟨rfl⟩⟩
  rw [HR.out]
  unfold O.val
  clear hs h1 h2 hc
  go_enter Tryd.func89, Tryd.ntmps89
  go_wp2_with (first
    | (go_at_call 99; refine (CN.out _).mono ?_; rintro e w1 ⟨rfl, hw⟩; subst w1)
    | (go_at_call 67; refine (CI.out _).mono ?_; rintro e w1 ⟨rfl, hw⟩; subst w1))
  go_loopw [5] (fun i wr => ∃ k : Nat, k ≤ zs.length ∧ i = .int .i64 k ∧ Hid (∀ j, j < k → zs.getD j 0 ≠ o.m) ∧ Hid (OA wr w.heap.size o ∧ Ints wr b zs ∧ Below w.heap.size w wr)) (fun i _ => zs.length - (intOf i).toNat)
  case atStart => exact ⟨0, by omega, rfl, ⟨fun j hj => by omega⟩, ⟨OA.new w o _, HC.out.bel (bel_alloc (Below.refl _ _) _), bel_alloc (Below.refl _ _) _⟩⟩
  case round =>
    obtain ⟨k, hk, rfl, hno, HX⟩ := hrel
    obtain ⟨c0, c1, c2, c3, c4, c5, c6, c7, c8, c9⟩ := HX.out.1
    by_cases hlt : k < zs.length
    · have cz := HX.out.2.1 k hlt
      have hk3 : (k : Int) < (n : Int) := by omega
      have hk4 : (0 : Int) ≤ (k : Int) := by omega
      obtain ⟨z, hz⟩ : ∃ z, zs.getD k 0 = z := ⟨_, rfl⟩
      rw [hz] at cz
      obtain ⟨q, hq⟩ : ∃ q, (z == o.m) = q := ⟨_, rfl⟩
      rcases q with _ | _
      · have HN : Hid (z ≠ o.m) := ⟨by simpa using hq⟩
        have HZ : Hid (zs.getD k 0 = z) := ⟨hz⟩
        have HO : Hid (∀ j, j < k → zs.getD j 0 ≠ o.m) := hno
        clear hz hno
        go_wp2
        go_quiet (fail)
        go_wp2
        go_roundw
        case rel =>
          have hd : ∀ m, Below wr.heap.size wr (wr.drewN m) := fun m => below_drewN (Below.refl _ _) m
          exact ⟨k + 1, hlt, by go_num, ⟨fun j hj => by
            rcases Nat.lt_succ_iff_lt_or_eq.1 hj with h | h
            · exact HO.out j h
            · subst h; rw [HZ.out]; exact HN.out⟩, ⟨HX.out.1.bel (hd _), HX.out.2.1.bel (hd _), below_drewN HX.out.2.2 _⟩⟩
        case measure => simp [intOf]; omega
      · have HZ : Hid (zs.contains o.m = true) := ⟨contains_of hlt (by rw [hz]; simpa using hq)⟩
        clear hz hno
        obtain ⟨a1, g1⟩ : ∃ x, (o.m != 2) = x := ⟨_, rfl⟩
        obtain ⟨a2, g2⟩ : ∃ x, (o.m != 3) = x := ⟨_, rfl⟩
        have HE : Hid (r = ((a1 && a2) || o.n == 0)) := ⟨by rw [← HR.out, HZ.out, g1, g2, Bool.true_and]⟩
        rcases a1 with _ | _ <;> rcases a2 with _ | _
        all_goals
          go_wp2
          go_quiet (fail)
          go_wp2
          go_ret
          exact ⟨ret_bool (by rw [HE.out]; simp), below_drewN HX.out.2.2 _⟩
    · have HZ : Hid (r = false) := ⟨by rw [← HR.out, not_contains_of (fun j hj => hno.out j (by omega)), Bool.false_and]⟩
      go_wp2
      go_ret
      exact ⟨ret_bool HZ.out.symm, HX.out.2.2⟩

theorem refNamed_any (o : O) (b n c : Nat) (zs : List Int) (w : World) (hs : o.nm.size ≤ 9223372036854775807) (hn : n = zs.length) (hb : n ≤ 100) (hc : Ints w b zs) :
    Calls Tryd.prog 89 #[o.val, .slice (some ⟨b, 0, none⟩) n c] w fun e w' => e = .returned (.bool (namedB o zs)) ∧ Below w.heap.size w w' := by
  unfold namedB
  cases he : empB o.nm
  · rw [if_neg (by simp)]
    cases h : (isNameB o.nm && fitsSB o.n)
    · exact refNamed_bad o b n c w hs he h
    · rw [Bool.true_and]
      rw [Bool.and_eq_true] at h
      exact refNamed_good o b n c zs w hs he h.1 h.2 hn hb hc
  · rw [if_pos rfl]
    exact refNamed_emp o b n c w he
end Go.Proofs.YtdgejingoamfeaaDoor

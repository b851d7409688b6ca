/- The document's name, of whatever text. The document's named. The document's mem. The document's mem, of a base register. The document's target. -/
import Derived.Test.YtdgejingoamfeaaDoorRefSmall
import Derived.Test.YtdgejingoamfeaaDoorMay
import Derived.BigQuiet
import Derived.Deep.QuietTactic
namespace Go.Proofs.YtdgejingoamfeaaDoor
open Go.ChangeShapes Go.WideShapes Go.ChangeAt Go.RowKit
set_option linter.unusedVariables false

theorem bar_cases (c : UInt8) (h : barL.contains c = true) : c.toNat = 40 ∨ c.toNat = 41 ∨ c.toNat = 44 ∨ c.toNat = 64 ∨ c.toNat = 36 ∨ c.toNat = 37 ∨ c.toNat = 42 ∨ c.toNat = 35 ∨ c.toNat = 59 ∨ c.toNat = 58 ∨ c.toNat = 34 ∨ c.toNat = 39 := by
  have : ∀ n : Fin 256, barL.contains (UInt8.ofNat n.val) = true → (UInt8.ofNat n.val).toNat = 40 ∨ (UInt8.ofNat n.val).toNat = 41 ∨ (UInt8.ofNat n.val).toNat = 44 ∨ (UInt8.ofNat n.val).toNat = 64 ∨ (UInt8.ofNat n.val).toNat = 36 ∨ (UInt8.ofNat n.val).toNat = 37 ∨ (UInt8.ofNat n.val).toNat = 42 ∨ (UInt8.ofNat n.val).toNat = 35 ∨ (UInt8.ofNat n.val).toNat = 59 ∨ (UInt8.ofNat n.val).toNat = 58 ∨ (UInt8.ofNat n.val).toNat = 34 ∨ (UInt8.ofNat n.val).toNat = 39 := by decide +kernel
  have := this ⟨c.toNat, c.toNat_lt⟩ (by simpa using h)
  simpa using this
theorem bar_not (c : UInt8) (h : barL.contains c = false) : c.toNat ≠ 40 ∧ c.toNat ≠ 41 ∧ c.toNat ≠ 44 ∧ c.toNat ≠ 64 ∧ c.toNat ≠ 36 ∧ c.toNat ≠ 37 ∧ c.toNat ≠ 42 ∧ c.toNat ≠ 35 ∧ c.toNat ≠ 59 ∧ c.toNat ≠ 58 ∧ c.toNat ≠ 34 ∧ c.toNat ≠ 39 := by
  have : ∀ n : Fin 256, barL.contains (UInt8.ofNat n.val) = false → (UInt8.ofNat n.val).toNat ≠ 40 ∧ (UInt8.ofNat n.val).toNat ≠ 41 ∧ (UInt8.ofNat n.val).toNat ≠ 44 ∧ (UInt8.ofNat n.val).toNat ≠ 64 ∧ (UInt8.ofNat n.val).toNat ≠ 36 ∧ (UInt8.ofNat n.val).toNat ≠ 37 ∧ (UInt8.ofNat n.val).toNat ≠ 42 ∧ (UInt8.ofNat n.val).toNat ≠ 35 ∧ (UInt8.ofNat n.val).toNat ≠ 59 ∧ (UInt8.ofNat n.val).toNat ≠ 58 ∧ (UInt8.ofNat n.val).toNat ≠ 34 ∧ (UInt8.ofNat n.val).toNat ≠ 39 := by decide +kernel
  have := this ⟨c.toNat, c.toNat_lt⟩ (by simpa using h)
  simpa using this

set_option maxHeartbeats 4000000 in
theorem refName_any (s : ByteArray) (w : World) (hs : s.size ≤ 9223372036854775807) :
    Calls Tryd.prog 99 #[.string s] w fun e w' => e = .returned (.bool (isNameB s)) ∧ w' = w := by
  have hl : s.data.toList.length = s.size := by simp
  obtain ⟨r, HR⟩ : ∃ r, Hid (isNameB s = r) := ⟨_, ⟨rfl⟩⟩
  rw [HR.out]
  go_enter Tryd.func99, Tryd.ntmps99
  go_wp2
  go_loop [3] (fun i => ∃ k : Nat, k ≤ s.size ∧ i = .int .i64 k ∧ Hid ((s.data.toList.take k).all byteB = true)) (fun i => s.size - (intOf i).toNat)
  case atStart => exact ⟨0, by omega, rfl, ⟨by simp⟩⟩
  case round =>
    obtain ⟨k, hk, rfl, hall⟩ := hrel
    by_cases hlt : k < s.size
    · have hget : s.data.toList[k]'(by omega) = s[k] := by rw [Array.getElem_toList]; rfl
      have hs2 := all_take_succ s.data.toList k (by omega)
      rw [hget, hall.out, Bool.true_and] at hs2
      have HS : Hid (byteB s[k] = false → r = false) := ⟨fun hb => by
        rw [← HR.out]
        have : s.data.toList.all byteB = false := by
          rw [List.all_eq_false]; exact ⟨s.data.toList[k]'(by omega), List.getElem_mem .., by rw [hget, hb]; simp⟩
        unfold isNameB; rw [this]; simp⟩
      have HT : Hid ((s.data.toList.take (k + 1)).all byteB = byteB s[k]) := ⟨hs2⟩
      clear hs2 hget hall
      cases hbar : barL.contains s[k]
      · obtain ⟨n40, n41, n44, n64, n36, n37, n42, n35, n59, n58, n34, n39⟩ := bar_not _ hbar
        have m40 : ((s[k].toNat : Int) == 40) = false := by simp; omega
        have m41 : ((s[k].toNat : Int) == 41) = false := by simp; omega
        have m44 : ((s[k].toNat : Int) == 44) = false := by simp; omega
        have m64 : ((s[k].toNat : Int) == 64) = false := by simp; omega
        have m36 : ((s[k].toNat : Int) == 36) = false := by simp; omega
        have m37 : ((s[k].toNat : Int) == 37) = false := by simp; omega
        have m42 : ((s[k].toNat : Int) == 42) = false := by simp; omega
        have m35 : ((s[k].toNat : Int) == 35) = false := by simp; omega
        have m59 : ((s[k].toNat : Int) == 59) = false := by simp; omega
        have m58 : ((s[k].toNat : Int) == 58) = false := by simp; omega
        have m34 : ((s[k].toNat : Int) == 34) = false := by simp; omega
        have m39 : ((s[k].toNat : Int) == 39) = false := by simp; omega
        by_cases g1 : s[k].toNat < 33
        · have hb : Hid (byteB s[k] = false) := ⟨by unfold byteB; simp [g1]⟩
          clear hbar
          go_wp2
          go_ret
          exact ⟨ret_bool (HS.out hb.out).symm, rfl⟩
        · by_cases g2 : 126 < s[k].toNat
          · have hb : Hid (byteB s[k] = false) := ⟨by unfold byteB; simp [g2]⟩
            clear hbar
            go_wp2
            go_ret
            exact ⟨ret_bool (HS.out hb.out).symm, rfl⟩
          · have hb : Hid (byteB s[k] = true) := ⟨by unfold byteB; rw [decide_eq_false g1, decide_eq_false g2, show [40, 41, 44, 64, 36, 37, 42, 35, 59, 58, 34, 39].contains s[k] = false from hbar]; rfl⟩
            clear hbar
            go_wp2
            go_round
            case rel => exact ⟨k + 1, hlt, by go_num, ⟨by rw [HT.out, hb.out]⟩⟩
            case measure => simp [intOf]; omega
      · have hb : Hid (byteB s[k] = false) := ⟨by unfold byteB; rw [show [40, 41, 44, 64, 36, 37, 42, 35, 59, 58, 34, 39].contains s[k] = true from hbar]; simp⟩
        have hc := bar_cases _ hbar
        clear hbar
        rcases hc with hc | hc | hc | hc | hc | hc | hc | hc | hc | hc | hc | hc
        all_goals
          go_wp2
          go_ret
          exact ⟨ret_bool (HS.out hb.out).symm, rfl⟩
    · have hk' : k = s.size := by omega
      subst hk'
      have he : Hid (s.data.toList.all byteB = true) := ⟨by
        have := hall.out
        rwa [List.take_of_length_le (by omega)] at this⟩
      by_cases g1 : 1 ≤ s.size
      · by_cases g2 : s.size ≤ 255
        · have HE : Hid (r = true) := ⟨by rw [← HR.out]; unfold isNameB; rw [he.out, hl]; simp [g1, g2]⟩
          go_wp2
          go_ret
          exact ⟨ret_bool (by rw [HE.out]; simp; try omega), rfl⟩
        · have HE : Hid (r = false) := ⟨by rw [← HR.out]; unfold isNameB; rw [he.out, hl]; simp [g2]⟩
          go_wp2
          go_ret
          exact ⟨ret_bool (by rw [HE.out]; simp; try omega), rfl⟩
      · have HE : Hid (r = false) := ⟨by rw [← HR.out]; unfold isNameB; rw [hl]; simp [g1]⟩
        go_wp2
        go_ret
        exact ⟨ret_bool HE.out.symm, rfl⟩

/-- May the name and the mod be? -/
def namedB (o : O) (zs : List Int) : Bool :=
  if empB o.nm then o.m == 0 && fitsSB o.n else (isNameB o.nm && fitsSB o.n) && (zs.contains o.m && ((o.m != 2 && o.m != 3) || o.n == 0))

set_option maxHeartbeats 2000000 in
theorem refNamed_emp (o : O) (b n c : Nat) (w : World) (he : o.nm.toList.isEmpty = true) :
    Calls Tryd.prog 89 #[o.val, .slice (some ⟨b, 0, none⟩) n c] w fun e w' => e = .returned (.bool (o.m == 0 && fitsSB o.n)) ∧ Below w.heap.size w w' := by
  unfold O.val
  obtain ⟨a, ha⟩ : ∃ x, (o.m == 0) = x := ⟨_, rfl⟩
  rw [ha]
  rcases a with _ | _
  all_goals
    go_enter Tryd.func89, Tryd.ntmps89
    go_wp2_with (go_at_call 67; refine (int32_any _ _).mono ?_; rintro e w1 ⟨rfl, hw⟩; subst w1)
    go_ret
    exact ⟨rfl, bel_alloc (Below.refl _ _) _⟩

set_option maxHeartbeats 2000000 in
theorem refNamed_bad (o : O) (b n c : Nat) (w : World) (hs : o.nm.size ≤ 9223372036854775807) (he : o.nm.toList.isEmpty = false) (h : (isNameB o.nm && fitsSB o.n) = false) :
    Calls Tryd.prog 89 #[o.val, .slice (some ⟨b, 0, none⟩) n c] w fun e w' => e = .returned (.bool false) ∧ Below w.heap.size w w' := by
  have CN : Hid (∀ v, Calls Tryd.prog 99 #[.string o.nm] v fun e w' => e = .returned (.bool (isNameB o.nm)) ∧ w' = v) := ⟨fun v => refName_any o.nm v hs⟩
  have CI : Hid (∀ v, Calls Tryd.prog 67 #[.int .i64 o.n] v fun e w' => e = .returned (.bool (fitsSB o.n)) ∧ w' = v) := ⟨fun v => int32_any o.n v⟩
  unfold O.val
  generalize isNameB o.nm = x at *
  generalize fitsSB o.n = y at *
  clear hs
  rcases x with _ | _
  case' true => (rcases y with _ | _; rotate_left; cases h)
  all_goals
    clear h
    go_enter Tryd.func89, Tryd.ntmps89
    go_wp2_with (first
      | (go_at_call 99; refine (CN.out _).mono ?_; rintro e w1 ⟨rfl, hw⟩; subst w1)
      | (go_at_call 67; refine (CI.out _).mono ?_; rintro e w1 ⟨rfl, hw⟩; subst w1))
    go_ret
    exact ⟨rfl, bel_alloc (Below.refl _ _) _⟩

theorem contains_of {zs : List Int} {m : Int} {k : Nat} (hk : k < zs.length) (h : zs.getD k 0 = m) : zs.contains m = true := by
  rw [List.contains_iff_mem]
  rw [← h, List.getD, List.getElem?_eq_getElem hk]
  exact List.getElem_mem ..
theorem not_contains_of {zs : List Int} {m : Int} (h : ∀ j, j < zs.length → zs.getD j 0 ≠ m) : zs.contains m = false := by
  rw [Bool.eq_false_iff]
  intro hc
  rw [List.contains_iff_mem] at hc
  obtain ⟨j, hj, rfl⟩ := List.mem_iff_getElem.1 hc
  exact h j hj (by rw [List.getD, List.getElem?_eq_getElem hj]; rfl)

set_option maxHeartbeats 4000000 in
theorem refNamed_good (o : O) (b n c : Nat) (zs : List Int) (w : World) (hs : o.nm.size ≤ 9223372036854775807) (he : o.nm.toList.isEmpty = false) (h1 : isNameB o.nm = true) (h2 : fitsSB o.n = true) (hn : n = zs.length) (hb : n ≤ 100) (hc : Ints w b zs) :
    Calls Tryd.prog 89 #[o.val, .slice (some ⟨b, 0, none⟩) n c] w fun e w' => e = .returned (.bool (zs.contains o.m && ((o.m != 2 && o.m != 3) || o.n == 0))) ∧ Below w.heap.size w w' := by
  have CN : Hid (∀ v, Calls Tryd.prog 99 #[.string o.nm] v fun e w' => e = .returned (.bool true) ∧ w' = v) := ⟨fun v => h1 ▸ refName_any o.nm v hs⟩
  have CI : Hid (∀ v, Calls Tryd.prog 67 #[.int .i64 o.n] v fun e w' => e = .returned (.bool true) ∧ w' = v) := ⟨fun v => h2 ▸ int32_any o.n v⟩
  have HC : Hid (Ints w b zs) := ⟨hc⟩
  have hblt : Hid (0 < zs.length → b < w.heap.size) := ⟨fun h => World.block_lt_of_cell? w _ (hc 0 h)⟩
  obtain ⟨r, HR⟩ : ∃ r, Hid ((zs.contains o.m && ((o.m != 2 && o.m != 3) || o.n == 0)) = r) := ⟨_, ⟨rfl⟩⟩
  rw [HR.out]
  unfold O.val
  clear hs h1 h2 hc
  go_enter Tryd.func89, Tryd.ntmps89
  go_wp2_with (first
    | (go_at_call 99; refine (CN.out _).mono ?_; rintro e w1 ⟨rfl, hw⟩; subst w1)
    | (go_at_call 67; refine (CI.out _).mono ?_; rintro e w1 ⟨rfl, hw⟩; subst w1))
  go_loopw [5] (fun i wr => ∃ k : Nat, k ≤ zs.length ∧ i = .int .i64 k ∧ Hid (∀ j, j < k → zs.getD j 0 ≠ o.m) ∧ Hid (OA wr w.heap.size o ∧ Ints wr b zs ∧ Below w.heap.size w wr)) (fun i _ => zs.length - (intOf i).toNat)
  case atStart => exact ⟨0, by omega, rfl, ⟨fun j hj => by omega⟩, ⟨OA.new w o _, HC.out.bel (bel_alloc (Below.refl _ _) _), bel_alloc (Below.refl _ _) _⟩⟩
  case round =>
    obtain ⟨k, hk, rfl, hno, HX⟩ := hrel
    obtain ⟨c0, c1, c2, c3, c4, c5, c6, c7, c8, c9⟩ := HX.out.1
    by_cases hlt : k < zs.length
    · have cz := HX.out.2.1 k hlt
      have hk3 : (k : Int) < (n : Int) := by omega
      have hk4 : (0 : Int) ≤ (k : Int) := by omega
      obtain ⟨z, hz⟩ : ∃ z, zs.getD k 0 = z := ⟨_, rfl⟩
      rw [hz] at cz
      obtain ⟨q, hq⟩ : ∃ q, (z == o.m) = q := ⟨_, rfl⟩
      rcases q with _ | _
      · have HN : Hid (z ≠ o.m) := ⟨by simpa using hq⟩
        have HZ : Hid (zs.getD k 0 = z) := ⟨hz⟩
        have HO : Hid (∀ j, j < k → zs.getD j 0 ≠ o.m) := hno
        clear hz hno
        go_wp2
        go_quiet (fail)
        go_wp2
        go_roundw
        case rel =>
          have hd : ∀ m, Below wr.heap.size wr (wr.drewN m) := fun m => below_drewN (Below.refl _ _) m
          exact ⟨k + 1, hlt, by go_num, ⟨fun j hj => by
            rcases Nat.lt_succ_iff_lt_or_eq.1 hj with h | h
            · exact HO.out j h
            · subst h; rw [HZ.out]; exact HN.out⟩, ⟨HX.out.1.bel (hd _), HX.out.2.1.bel (hd _), below_drewN HX.out.2.2 _⟩⟩
        case measure => simp [intOf]; omega
      · have HZ : Hid (zs.contains o.m = true) := ⟨contains_of hlt (by rw [hz]; simpa using hq)⟩
        clear hz hno
        obtain ⟨a1, g1⟩ : ∃ x, (o.m != 2) = x := ⟨_, rfl⟩
        obtain ⟨a2, g2⟩ : ∃ x, (o.m != 3) = x := ⟨_, rfl⟩
        have HE : Hid (r = ((a1 && a2) || o.n == 0)) := ⟨by rw [← HR.out, HZ.out, g1, g2, Bool.true_and]⟩
        rcases a1 with _ | _ <;> rcases a2 with _ | _
        all_goals
          go_wp2
          go_quiet (fail)
          go_wp2
          go_ret
          exact ⟨ret_bool (by rw [HE.out]; simp), below_drewN HX.out.2.2 _⟩
    · have HZ : Hid (r = false) := ⟨by rw [← HR.out, not_contains_of (fun j hj => hno.out j (by omega)), Bool.false_and]⟩
      go_wp2
      go_ret
      exact ⟨ret_bool HZ.out.symm, HX.out.2.2⟩

theorem refNamed_any (o : O) (b n c : Nat) (zs : List Int) (w : World) (hs : o.nm.size ≤ 9223372036854775807) (hn : n = zs.length) (hb : n ≤ 100) (hc : Ints w b zs) :
    Calls Tryd.prog 89 #[o.val, .slice (some ⟨b, 0, none⟩) n c] w fun e w' => e = .returned (.bool (namedB o zs)) ∧ Below w.heap.size w w' := by
  unfold namedB
  cases he : empB o.nm
  · rw [if_neg (by simp)]
    cases h : (isNameB o.nm && fitsSB o.n)
    · exact refNamed_bad o b n c w hs he h
    · rw [Bool.true_and]
      rw [Bool.and_eq_true] at h
      exact refNamed_good o b n c zs w hs he h.1 h.2 hn hb hc
  · rw [if_pos rfl]
    exact refNamed_emp o b n c w he

/-- The operand without its name, number and mod. -/
def bareO (o : O) : O := ⟨o.k, o.r, o.b, o.x, o.s, o.rip, o.fs, 0, ⟨#[]⟩, 0⟩
def memRB (o : O) : Bool :=
  if o.rip then (bareO o).same ⟨3, 0, -1, -1, 0, true, false, 0, ⟨#[]⟩, 0⟩ && namedB o [0, 2, 3]
  else if o.fs then (bareO o).same ⟨3, 0, -1, -1, 0, false, true, 0, ⟨#[]⟩, 0⟩ && namedB o [4]
  else if isRegB o.b && namedB o [4, 5] then
    (if o.x = -1 then (bareO o).same ⟨3, 0, o.b, -1, 0, false, false, 0, ⟨#[]⟩, 0⟩
     else if isRegB o.x && (o.x != 4 && [1, 2, 4, 8].contains o.s) then (bareO o).same ⟨3, 0, o.b, o.x, o.s, false, false, 0, ⟨#[]⟩, 0⟩ else false)
  else false

theorem named_at (o : O) {d : Bool} {zs : List Int} (hs : o.nm.size ≤ 9223372036854775807) (hd : namedB o zs = d) (n : Nat) (hn : n = zs.length) (hb : n ≤ 100) : Hid (∀ (v : World) b, Ints v b zs → Calls Tryd.prog 89 #[.agg #[.int .i64 o.k, .int .i64 o.r, .int .i64 o.b, .int .i64 o.x, .int .i64 o.s, .bool o.rip, .bool o.fs, .int .i64 o.n, .string o.nm, .int .i64 o.m], .slice (some ⟨b, 0, none⟩) n n] v fun e w' => e = .returned (.bool d) ∧ Below v.heap.size v w') :=
  ⟨fun v b hi => hd ▸ refNamed_any o b n n zs v hs hn hb hi⟩

set_option maxHeartbeats 2000000 in
theorem refMem_rip (o : O) (w : World) (hs : o.nm.size ≤ 9223372036854775807) (hrip : o.rip = true) :
    Calls Tryd.prog 64 #[o.val] w fun e w' => e = .returned (.bool (memRB o)) ∧ Below w.heap.size w w' := by
  have FE : ∀ v, Sem.run Tryd.prog (binOp .eql 23 (bareO o).val (O.val ⟨3, 0, -1, -1, 0, true, false, 0, ⟨#[]⟩, 0⟩)) v = .ok (.bool ((bareO o).same ⟨3, 0, -1, -1, 0, true, false, 0, ⟨#[]⟩, 0⟩)) v := fun v => opd_eq _ _ v
  obtain ⟨c, hc⟩ : ∃ c, (bareO o).same ⟨3, 0, -1, -1, 0, true, false, 0, ⟨#[]⟩, 0⟩ = c := ⟨_, rfl⟩
  obtain ⟨d, hd⟩ : ∃ d, namedB o [0, 2, 3] = d := ⟨_, rfl⟩
  have HR : Hid (memRB o = (c && d)) := ⟨by simp only [memRB, hrip, if_true, hc, hd]⟩
  have HN := named_at o hs hd 3 rfl (by omega)
  rw [hc] at FE
  simp only [O.val, bareO] at FE
  rw [hrip] at FE HN
  unfold O.val
  rw [hrip]
  clear hc hd hrip hs
  rcases c with _ | _
  · go_enter Tryd.func64, Tryd.ntmps64
    go_wp2
    go_ret
    exact ⟨ret_bool (by rw [HR.out]; rfl), by repeat (first | (with_reducible exact Below.refl _ _) | (with_reducible refine bel_alloc ?_ _) | ((with_reducible refine Below.setCell ?_ ?_ _); rotate_left; (focus (dsimp only; omega))))⟩
  · go_enter Tryd.func64, Tryd.ntmps64
    go_wp2_with (go_at_call 89; refine (HN.out _ _ (ints3 (by simp [go_sem]) (by simp [go_sem]) (by simp [go_sem]))).mono ?_; rintro e w1 ⟨rfl, hb⟩)
    go_ret
    exact ⟨ret_bool (by rw [HR.out]; rfl), by refine bel_trans ?_ hb; repeat (first | (with_reducible exact Below.refl _ _) | (with_reducible refine bel_alloc ?_ _) | ((with_reducible refine Below.setCell ?_ ?_ _); rotate_left; (focus (dsimp only; omega))))⟩

set_option maxHeartbeats 2000000 in
theorem refMem_fs (o : O) (w : World) (hs : o.nm.size ≤ 9223372036854775807) (hrip : o.rip = false) (hfs : o.fs = true) :
    Calls Tryd.prog 64 #[o.val] w fun e w' => e = .returned (.bool (memRB o)) ∧ Below w.heap.size w w' := by
  have FE : ∀ v, Sem.run Tryd.prog (binOp .eql 23 (bareO o).val (O.val ⟨3, 0, -1, -1, 0, false, true, 0, ⟨#[]⟩, 0⟩)) v = .ok (.bool ((bareO o).same ⟨3, 0, -1, -1, 0, false, true, 0, ⟨#[]⟩, 0⟩)) v := fun v => opd_eq _ _ v
  obtain ⟨c, hc⟩ : ∃ c, (bareO o).same ⟨3, 0, -1, -1, 0, false, true, 0, ⟨#[]⟩, 0⟩ = c := ⟨_, rfl⟩
  obtain ⟨d, hd⟩ : ∃ d, namedB o [4] = d := ⟨_, rfl⟩
  have HR : Hid (memRB o = (c && d)) := ⟨by simp only [memRB, hrip, hfs, Bool.false_eq_true, if_false, if_true, hc, hd]⟩
  have HN := named_at o hs hd 1 rfl (by omega)
  rw [hc] at FE
  simp only [O.val, bareO] at FE
  rw [hrip, hfs] at FE HN
  unfold O.val
  rw [hrip, hfs]
  clear hc hd hrip hfs hs
  rcases c with _ | _
  · go_enter Tryd.func64, Tryd.ntmps64
    go_wp2
    go_ret
    exact ⟨ret_bool (by rw [HR.out]; rfl), by repeat (first | (with_reducible exact Below.refl _ _) | (with_reducible refine bel_alloc ?_ _) | ((with_reducible refine Below.setCell ?_ ?_ _); rotate_left; (focus (dsimp only; omega))))⟩
  · go_enter Tryd.func64, Tryd.ntmps64
    go_wp2_with (go_at_call 89; refine (HN.out _ _ (ints1 (by simp [go_sem]))).mono ?_; rintro e w1 ⟨rfl, hb⟩)
    go_ret
    exact ⟨ret_bool (by rw [HR.out]; rfl), by refine bel_trans ?_ hb; repeat (first | (with_reducible exact Below.refl _ _) | (with_reducible refine bel_alloc ?_ _) | ((with_reducible refine Below.setCell ?_ ?_ _); rotate_left; (focus (dsimp only; omega))))⟩

theorem isReg_false {r : Int} (h : isRegB r = false) : r < 0 ∨ 15 < r := by
  unfold isRegB withinB at h
  simp at h
  omega

set_option maxHeartbeats 4000000 in
theorem refMem_base (o : O) (w : World) (hs : o.nm.size ≤ 9223372036854775807) (hrip : o.rip = false) (hfs : o.fs = false) :
    Calls Tryd.prog 64 #[o.val] w fun e w' => e = .returned (.bool (memRB o)) ∧ Below w.heap.size w w' := by
  have FA : ∀ v, Sem.run Tryd.prog (binOp .eql 23 (bareO o).val (O.val ⟨3, 0, o.b, -1, 0, false, false, 0, ⟨#[]⟩, 0⟩)) v = .ok (.bool ((bareO o).same ⟨3, 0, o.b, -1, 0, false, false, 0, ⟨#[]⟩, 0⟩)) v := fun v => opd_eq _ _ v
  have FB : ∀ v, Sem.run Tryd.prog (binOp .eql 23 (bareO o).val (O.val ⟨3, 0, o.b, o.x, o.s, false, false, 0, ⟨#[]⟩, 0⟩)) v = .ok (.bool ((bareO o).same ⟨3, 0, o.b, o.x, o.s, false, false, 0, ⟨#[]⟩, 0⟩)) v := fun v => opd_eq _ _ v
  obtain ⟨ca, hca⟩ : ∃ c, (bareO o).same ⟨3, 0, o.b, -1, 0, false, false, 0, ⟨#[]⟩, 0⟩ = c := ⟨_, rfl⟩
  obtain ⟨cb, hcb⟩ : ∃ c, (bareO o).same ⟨3, 0, o.b, o.x, o.s, false, false, 0, ⟨#[]⟩, 0⟩ = c := ⟨_, rfl⟩
  obtain ⟨d, hd⟩ : ∃ d, namedB o [4, 5] = d := ⟨_, rfl⟩
  have HR : Hid (memRB o = if isRegB o.b && d then (if o.x = -1 then ca else if isRegB o.x && (o.x != 4 && [1, 2, 4, 8].contains o.s) then cb else false) else false) := ⟨by simp only [memRB, hrip, hfs, Bool.false_eq_true, if_false, hca, hcb, hd]⟩
  have HN := named_at o hs hd 2 rfl (by omega)
  rw [hca] at FA
  rw [hcb] at FB
  simp only [O.val, bareO] at FA FB
  rw [hrip, hfs] at FA FB HN
  unfold O.val
  rw [hrip, hfs]
  clear hca hcb hd hrip hfs hs
  generalize memRB o = z at *
  cases hb : isRegB o.b
  · rw [hb] at HR
    rcases isReg_false hb with g | g
    all_goals
      clear hb
      go_enter Tryd.func64, Tryd.ntmps64
      go_wp2
      go_ret
      exact ⟨ret_bool (by rw [HR.out]; rfl), by repeat (first | (with_reducible exact Below.refl _ _) | (with_reducible refine bel_alloc ?_ _) | ((with_reducible refine Below.setCell ?_ ?_ _); rotate_left; (focus (dsimp only; omega))))⟩
  rw [hb] at HR
  have g0 : ¬ o.b < 0 := by unfold isRegB withinB at hb; simp at hb; omega
  have g1 : ¬ 15 < o.b := by unfold isRegB withinB at hb; simp at hb; omega
  clear hb
  rcases d with _ | _
  · go_enter Tryd.func64, Tryd.ntmps64
    go_wp2_with (go_at_call 89; refine (HN.out _ _ (ints2 (by simp [go_sem]) (by simp [go_sem]))).mono ?_; rintro e w1 ⟨rfl, hb⟩; obtain ⟨hcl, hfl⟩ := bcell hb; have A1 : OA w1 w.heap.size ⟨o.k, o.r, o.b, o.x, o.s, false, false, o.n, o.nm, o.m⟩ := (by constructor <;> (rw [hcl _ _ (by simp; omega)]; simp [go_sem])); have D1 : OA w1 (w.heap.size + 1) ⟨o.k, o.r, o.b, o.x, o.s, false, false, 0, ⟨#[]⟩, 0⟩ := (by constructor <;> (rw [hcl _ _ (by simp)]; simp [go_sem])); have B1 : Hid (Below w.heap.size w w1) := ⟨(by refine bel_trans ?_ hb; repeat (first | (with_reducible exact Below.refl _ _) | (with_reducible refine bel_alloc ?_ _) | ((with_reducible refine Below.setCell ?_ ?_ _); rotate_left; (focus (dsimp only; omega)))))⟩; clear hcl hfl hb; obtain ⟨p0, p1, p2, p3, p4, p5, p6, p7, p8, p9⟩ := A1; obtain ⟨q0, q1, q2, q3, q4, q5, q6, q7, q8, q9⟩ := D1)
    go_ret
    exact ⟨ret_bool (by rw [HR.out]; rfl), B1.out⟩
  by_cases hx : o.x = -1
  · have HZ : Hid (z = ca) := ⟨by rw [HR.out, if_pos (show (true && true) = true from rfl), if_pos hx]⟩
    have hx' : (o.x == -1) = true := by simp [hx]
    clear hx HR FB
    go_enter Tryd.func64, Tryd.ntmps64
    go_wp2_with (go_at_call 89; refine (HN.out _ _ (ints2 (by simp [go_sem]) (by simp [go_sem]))).mono ?_; rintro e w1 ⟨rfl, hb⟩; obtain ⟨hcl, hfl⟩ := bcell hb; have A1 : OA w1 w.heap.size ⟨o.k, o.r, o.b, o.x, o.s, false, false, o.n, o.nm, o.m⟩ := (by constructor <;> (rw [hcl _ _ (by simp; omega)]; simp [go_sem])); have D1 : OA w1 (w.heap.size + 1) ⟨o.k, o.r, o.b, o.x, o.s, false, false, 0, ⟨#[]⟩, 0⟩ := (by constructor <;> (rw [hcl _ _ (by simp)]; simp [go_sem])); have B1 : Hid (Below w.heap.size w w1) := ⟨(by refine bel_trans ?_ hb; repeat (first | (with_reducible exact Below.refl _ _) | (with_reducible refine bel_alloc ?_ _) | ((with_reducible refine Below.setCell ?_ ?_ _); rotate_left; (focus (dsimp only; omega)))))⟩; clear hcl hfl hb; obtain ⟨p0, p1, p2, p3, p4, p5, p6, p7, p8, p9⟩ := A1; obtain ⟨q0, q1, q2, q3, q4, q5, q6, q7, q8, q9⟩ := D1)
    go_ret
    exact ⟨ret_bool HZ.out.symm, B1.out⟩
  have hx' : (o.x == -1) = false := by simp [hx]
  have HR2 : Hid (z = if isRegB o.x && (o.x != 4 && [1, 2, 4, 8].contains o.s) then cb else false) := ⟨by rw [HR.out, if_pos (show (true && true) = true from rfl), if_neg hx]⟩
  clear HR hx FA
  cases hy : isRegB o.x
  · rw [hy] at HR2
    rcases isReg_false hy with g | g
    case' inr => have g' : ¬ o.x < 0 := (by omega)
    all_goals
      clear hy
      go_enter Tryd.func64, Tryd.ntmps64
      go_wp2_with (go_at_call 89; refine (HN.out _ _ (ints2 (by simp [go_sem]) (by simp [go_sem]))).mono ?_; rintro e w1 ⟨rfl, hb⟩; obtain ⟨hcl, hfl⟩ := bcell hb; have A1 : OA w1 w.heap.size ⟨o.k, o.r, o.b, o.x, o.s, false, false, o.n, o.nm, o.m⟩ := (by constructor <;> (rw [hcl _ _ (by simp; omega)]; simp [go_sem])); have D1 : OA w1 (w.heap.size + 1) ⟨o.k, o.r, o.b, o.x, o.s, false, false, 0, ⟨#[]⟩, 0⟩ := (by constructor <;> (rw [hcl _ _ (by simp)]; simp [go_sem])); have B1 : Hid (Below w.heap.size w w1) := ⟨(by refine bel_trans ?_ hb; repeat (first | (with_reducible exact Below.refl _ _) | (with_reducible refine bel_alloc ?_ _) | ((with_reducible refine Below.setCell ?_ ?_ _); rotate_left; (focus (dsimp only; omega)))))⟩; clear hcl hfl hb; obtain ⟨p0, p1, p2, p3, p4, p5, p6, p7, p8, p9⟩ := A1; obtain ⟨q0, q1, q2, q3, q4, q5, q6, q7, q8, q9⟩ := D1)
      go_ret
      exact ⟨ret_bool (by rw [HR2.out]; rfl), B1.out⟩
  rw [hy] at HR2
  have k0 : ¬ o.x < 0 := by unfold isRegB withinB at hy; simp at hy; omega
  have k1 : ¬ 15 < o.x := by unfold isRegB withinB at hy; simp at hy; omega
  clear hy
  cases h4 : (o.x == 4)
  · have HR3 : Hid (z = if [1, 2, 4, 8].contains o.s then cb else false) := ⟨by rw [HR2.out]; unfold bne; rw [h4]; rfl⟩
    clear HR2
    by_cases hs : o.s = 1 ∨ o.s = 2 ∨ o.s = 4 ∨ o.s = 8
    · have HZ : Hid (z = cb) := ⟨by rw [HR3.out, if_pos (by rcases hs with h | h | h | h <;> rw [h] <;> rfl)]⟩
      clear HR3
      obtain ⟨s1, e1⟩ : ∃ x, (o.s != 1) = x := ⟨_, rfl⟩
      obtain ⟨s2, e2⟩ : ∃ x, (o.s != 2) = x := ⟨_, rfl⟩
      obtain ⟨s4, e4⟩ : ∃ x, (o.s != 4) = x := ⟨_, rfl⟩
      have e8 : s1 = true → s2 = true → s4 = true → (o.s != 8) = false := by
        intro a b c; subst a b c; simp at e1 e2 e4; simp; omega
      clear hs
      rcases s1 with _ | _
      case' true => rcases s2 with _ | _
      case' true.true => rcases s4 with _ | _
      case' true.true.true => have e8 := e8 rfl rfl rfl
      all_goals
        go_enter Tryd.func64, Tryd.ntmps64
        go_wp2_with (go_at_call 89; refine (HN.out _ _ (ints2 (by simp [go_sem]) (by simp [go_sem]))).mono ?_; rintro e w1 ⟨rfl, hb⟩; obtain ⟨hcl, hfl⟩ := bcell hb; have A1 : OA w1 w.heap.size ⟨o.k, o.r, o.b, o.x, o.s, false, false, o.n, o.nm, o.m⟩ := (by constructor <;> (rw [hcl _ _ (by simp; omega)]; simp [go_sem])); have D1 : OA w1 (w.heap.size + 1) ⟨o.k, o.r, o.b, o.x, o.s, false, false, 0, ⟨#[]⟩, 0⟩ := (by constructor <;> (rw [hcl _ _ (by simp)]; simp [go_sem])); have B1 : Hid (Below w.heap.size w w1) := ⟨(by refine bel_trans ?_ hb; repeat (first | (with_reducible exact Below.refl _ _) | (with_reducible refine bel_alloc ?_ _) | ((with_reducible refine Below.setCell ?_ ?_ _); rotate_left; (focus (dsimp only; omega)))))⟩; clear hcl hfl hb; obtain ⟨p0, p1, p2, p3, p4, p5, p6, p7, p8, p9⟩ := A1; obtain ⟨q0, q1, q2, q3, q4, q5, q6, q7, q8, q9⟩ := D1)
        go_ret
        exact ⟨ret_bool HZ.out.symm, B1.out⟩
    · have HZ : Hid (z = false) := ⟨by rw [HR3.out, if_neg (by simp; omega)]⟩
      have e1 : (o.s != 1) = true := by simp; omega
      have e2 : (o.s != 2) = true := by simp; omega
      have e4 : (o.s != 4) = true := by simp; omega
      have e8 : (o.s != 8) = true := by simp; omega
      clear hs HR3
      go_enter Tryd.func64, Tryd.ntmps64
      go_wp2_with (go_at_call 89; refine (HN.out _ _ (ints2 (by simp [go_sem]) (by simp [go_sem]))).mono ?_; rintro e w1 ⟨rfl, hb⟩; obtain ⟨hcl, hfl⟩ := bcell hb; have A1 : OA w1 w.heap.size ⟨o.k, o.r, o.b, o.x, o.s, false, false, o.n, o.nm, o.m⟩ := (by constructor <;> (rw [hcl _ _ (by simp; omega)]; simp [go_sem])); have D1 : OA w1 (w.heap.size + 1) ⟨o.k, o.r, o.b, o.x, o.s, false, false, 0, ⟨#[]⟩, 0⟩ := (by constructor <;> (rw [hcl _ _ (by simp)]; simp [go_sem])); have B1 : Hid (Below w.heap.size w w1) := ⟨(by refine bel_trans ?_ hb; repeat (first | (with_reducible exact Below.refl _ _) | (with_reducible refine bel_alloc ?_ _) | ((with_reducible refine Below.setCell ?_ ?_ _); rotate_left; (focus (dsimp only; omega)))))⟩; clear hcl hfl hb; obtain ⟨p0, p1, p2, p3, p4, p5, p6, p7, p8, p9⟩ := A1; obtain ⟨q0, q1, q2, q3, q4, q5, q6, q7, q8, q9⟩ := D1)
      go_ret
      exact ⟨ret_bool HZ.out.symm, B1.out⟩
  · have HZ : Hid (z = false) := ⟨by rw [HR2.out]; unfold bne; rw [h4]; rfl⟩
    clear HR2
    go_enter Tryd.func64, Tryd.ntmps64
    go_wp2_with (go_at_call 89; refine (HN.out _ _ (ints2 (by simp [go_sem]) (by simp [go_sem]))).mono ?_; rintro e w1 ⟨rfl, hb⟩; obtain ⟨hcl, hfl⟩ := bcell hb; have A1 : OA w1 w.heap.size ⟨o.k, o.r, o.b, o.x, o.s, false, false, o.n, o.nm, o.m⟩ := (by constructor <;> (rw [hcl _ _ (by simp; omega)]; simp [go_sem])); have D1 : OA w1 (w.heap.size + 1) ⟨o.k, o.r, o.b, o.x, o.s, false, false, 0, ⟨#[]⟩, 0⟩ := (by constructor <;> (rw [hcl _ _ (by simp)]; simp [go_sem])); have B1 : Hid (Below w.heap.size w w1) := ⟨(by refine bel_trans ?_ hb; repeat (first | (with_reducible exact Below.refl _ _) | (with_reducible refine bel_alloc ?_ _) | ((with_reducible refine Below.setCell ?_ ?_ _); rotate_left; (focus (dsimp only; omega)))))⟩; clear hcl hfl hb; obtain ⟨p0, p1, p2, p3, p4, p5, p6, p7, p8, p9⟩ := A1; obtain ⟨q0, q1, q2, q3, q4, q5, q6, q7, q8, q9⟩ := D1)
    go_ret
    exact ⟨ret_bool HZ.out.symm, B1.out⟩

theorem refMem_any (o : O) (w : World) (hs : o.nm.size ≤ 9223372036854775807) :
    Calls Tryd.prog 64 #[o.val] w fun e w' => e = .returned (.bool (memRB o)) ∧ Below w.heap.size w w' := by
  cases h : o.rip
  · cases h' : o.fs
    · exact refMem_base o w hs h h'
    · exact refMem_fs o w hs h h'
  · exact refMem_rip o w hs h

def targetRB (o : O) : Bool :=
  if empB o.nm then fitsSB o.n && o.same ⟨4, 0, 0, 0, 0, false, false, o.n, ⟨#[]⟩, 0⟩
  else (isNameB o.nm && (o.m == 0 || o.m == 1)) && o.same ⟨4, 0, 0, 0, 0, false, false, 0, o.nm, o.m⟩

set_option maxHeartbeats 2000000 in
theorem refTarget_any (o : O) (w : World) (hs : o.nm.size ≤ 9223372036854775807) :
    Calls Tryd.prog 87 #[o.val] w fun e w' => e = .returned (.bool (targetRB o)) ∧ Below w.heap.size w w' := by
  cases he : o.nm.toList.isEmpty
  · have FE : ∀ v, Sem.run Tryd.prog (binOp .eql 23 o.val (O.val ⟨4, 0, 0, 0, 0, false, false, 0, o.nm, o.m⟩)) v = .ok (.bool (o.same ⟨4, 0, 0, 0, 0, false, false, 0, o.nm, o.m⟩)) v := fun v => opd_eq _ _ v
    simp only [O.val] at FE
    have CN : Hid (∀ v, Calls Tryd.prog 99 #[.string o.nm] v fun e w' => e = .returned (.bool (isNameB o.nm)) ∧ w' = v) := ⟨fun v => refName_any o.nm v hs⟩
    obtain ⟨a, ha⟩ : ∃ x, (o.m == 0) = x := ⟨_, rfl⟩
    obtain ⟨b, hb⟩ : ∃ x, (o.m == 1) = x := ⟨_, rfl⟩
    have HR : Hid (targetRB o = ((isNameB o.nm && (a || b)) && o.same ⟨4, 0, 0, 0, 0, false, false, 0, o.nm, o.m⟩)) := ⟨by unfold targetRB empB; rw [he, ha, hb]; rfl⟩
    generalize o.same ⟨4, 0, 0, 0, 0, false, false, 0, o.nm, o.m⟩ = c at *
    generalize isNameB o.nm = x at *
    generalize targetRB o = z at *
    unfold O.val
    clear hs
    rcases x with _ | _
    case' true => rcases a with _ | _
    case' true.false => rcases b with _ | _
    all_goals
      go_enter Tryd.func87, Tryd.ntmps87
      go_wp2_with (go_at_call 99; refine (CN.out _).mono ?_; rintro e w1 ⟨rfl, hw⟩; subst w1)
      go_ret
      exact ⟨ret_bool (by rw [HR.out]; rfl), bel_alloc (Below.refl _ _) _⟩
  · have FE : ∀ v, Sem.run Tryd.prog (binOp .eql 23 o.val (O.val ⟨4, 0, 0, 0, 0, false, false, o.n, ⟨#[]⟩, 0⟩)) v = .ok (.bool (o.same ⟨4, 0, 0, 0, 0, false, false, o.n, ⟨#[]⟩, 0⟩)) v := fun v => opd_eq _ _ v
    simp only [O.val] at FE
    have HR : Hid (targetRB o = (fitsSB o.n && o.same ⟨4, 0, 0, 0, 0, false, false, o.n, ⟨#[]⟩, 0⟩)) := ⟨by unfold targetRB empB; rw [he]; rfl⟩
    have CI : Hid (∀ v, Calls Tryd.prog 67 #[.int .i64 o.n] v fun e w' => e = .returned (.bool (fitsSB o.n)) ∧ w' = v) := ⟨fun v => int32_any o.n v⟩
    generalize o.same ⟨4, 0, 0, 0, 0, false, false, o.n, ⟨#[]⟩, 0⟩ = c at *
    generalize fitsSB o.n = y at *
    generalize targetRB o = z at *
    unfold O.val
    clear hs
    rcases y with _ | _
    all_goals
      go_enter Tryd.func87, Tryd.ntmps87
      go_wp2_with (go_at_call 67; refine (CI.out _).mono ?_; rintro e w1 ⟨rfl, hw⟩; subst w1)
      go_ret
      exact ⟨ret_bool (by rw [HR.out]; rfl), bel_alloc (Below.refl _ _) _⟩
end Go.Proofs.YtdgejingoamfeaaDoor

/- The walk of the law 'there and back'. -/
import Derived.Test.YtlecnehahmdlaaaPutsWalk
namespace Go.Proofs.Ytlecnehahmdlaaa
open Go.ChangeShapes Go.WideShapes Go.ChangeAt Go.RowKit
set_option linter.unusedVariables false

/-- The place among the four sizes. -/
theorem back_index (s : Int) : ∃ j : Nat, j < 4 ∧ (wrap64 (s.tmod 4 + 4)).tmod 4 = (j : Int) := by
  have hr : -4 < s.tmod 4 ∧ s.tmod 4 < 4 := ⟨Int.lt_tmod_of_pos s (by decide), Int.tmod_lt_of_pos s (by decide)⟩
  have h1 : wrap64 (s.tmod 4 + 4) = s.tmod 4 + 4 := by unfold wrap64; omega
  have h2 : 0 ≤ (s.tmod 4 + 4).tmod 4 ∧ (s.tmod 4 + 4).tmod 4 ≤ 3 := by rw [Int.tmod_eq_emod_of_nonneg (by omega)]; omega
  rw [h1]
  exact ⟨((s.tmod 4 + 4).tmod 4).toNat, by omega, by omega⟩

def four : Array Value := #[.int .i64 1, .int .i64 2, .int .i64 4, .int .i64 8]

theorem four_at (w : World) (t : TypeId) (j : Nat) (hj : j < 4) : ∃ M : Nat, (M = 1 ∨ M = 2 ∨ M = 4 ∨ M = 8) ∧ (w.alloc (.cells #[.int .i64 1, .int .i64 2, .int .i64 4, .int .i64 8] t)).cell? ⟨w.heap.size, j, none⟩ = some (.int .i64 (M : Int)) := by
  have : j = 0 ∨ j = 1 ∨ j = 2 ∨ j = 3 := by omega
  rcases this with rfl | rfl | rfl | rfl
  · exact ⟨1, by omega, by simp⟩
  · exact ⟨2, by omega, by simp⟩
  · exact ⟨4, by omega, by simp⟩
  · exact ⟨8, by omega, by simp⟩

theorem emod_mul256 (n A : Int) (hA : 0 < A) : n % (A * 256) = n % A + A * (n / A % 256) := by
  have e1 := Int.emod_add_mul_ediv n A
  have r0 := Int.emod_nonneg n (Int.ne_of_gt hA)
  have r1 := Int.emod_lt_of_pos n hA
  have e2 : n / A = n / A % 256 + 256 * (n / A / 256) := by omega
  have q0 : 0 ≤ n / A % 256 := by omega
  have q1 : n / A % 256 ≤ 255 := by omega
  have m0 := Int.mul_nonneg (Int.le_of_lt hA) q0
  have m1 := Int.mul_le_mul_of_nonneg_left q1 (Int.le_of_lt hA)
  have e3 : A * (n / A) = A * (n / A % 256) + A * 256 * (n / A / 256) := by
    rw [Int.mul_assoc, ← Int.mul_add, ← e2]
  have e4 : n = (n % A + A * (n / A % 256)) + A * 256 * (n / A / 256) := by omega
  have e5 : n % (A * 256) = ((n % A + A * (n / A % 256)) + A * 256 * (n / A / 256)) % (A * 256) := congrArg (· % (A * 256)) e4
  rw [e5, Int.add_mul_emod_self_left, Int.emod_eq_of_lt (by omega) (by omega)]

/-- The bytes of a number at a place are that number again. -/
theorem bacc_pl (n : Int) (bs : Nat → Int) (a s : Nat) (h : At bs a (pl n s)) : bacc bs a s = n % 2 ^ (8 * s) := by
  induction s with
  | zero => simp [bacc, Int.emod_one]
  | succ s ih =>
    have h1 : At bs a (pl n s) := by
      intro i hi
      rw [pl_len] at hi
      have := h i (by rw [pl_len]; omega)
      rw [this, pl_succ]
      simp [List.getElem?_append_left (show i < (pl n s).length by rw [pl_len]; exact hi)]
    have h2 : bs (a + s) = n / 2 ^ (8 * s) % 256 := by
      have := h s (by rw [pl_len]; omega)
      rw [this, pl_succ]
      simp [pl_len]
    show bacc bs a s + bs (a + s) * 2 ^ (8 * s) = _
    rw [ih h1, h2]
    have hp := pow_pos_i (8 * s)
    have e : (2 : Int) ^ (8 * (s + 1)) = 2 ^ (8 * s) * 256 := by
      rw [show 8 * (s + 1) = 8 * s + 8 from by omega, Int.pow_add]; rfl
    rw [e, emod_mul256 n _ hp, Int.mul_comm (n / 2 ^ (8 * s) % 256)]

theorem gval_pl (n : Int) (hn : -9223372036854775808 ≤ n ∧ n ≤ 9223372036854775807) (bs : Nat → Int) (a s : Nat) (hs : s = 1 ∨ s = 2 ∨ s = 4 ∨ s = 8) (hr : -(2 ^ (8 * s - 1)) ≤ n ∧ n < 2 ^ (8 * s)) (h : At bs a (pl n s)) :
    gval bs a s (decide (n < 0)) = n := by
  unfold gval
  rw [bacc_pl n bs a s h]
  have hp := pow_pos_i (8 * s - 1)
  have e : (2 : Int) ^ (8 * s) = 2 * 2 ^ (8 * s - 1) := by
    rw [show 8 * s = 1 + (8 * s - 1) from by omega, Int.pow_add]; simp
  by_cases h0 : n < 0
  · rw [if_pos (by simpa using h0)]
    unfold sx
    have m : n % 2 ^ (8 * s) = n + 2 ^ (8 * s) := by
      have : n = (n + 2 ^ (8 * s)) + 2 ^ (8 * s) * (-1) := by omega
      rw [this, Int.add_mul_emod_self_left, Int.emod_eq_of_lt (by omega) (by omega)]; omega
    rw [m]
    have m2 : n + 2 ^ (8 * s) + 2 ^ (8 * s - 1) = (n + 2 ^ (8 * s - 1)) + 2 ^ (8 * s) * 1 := by omega
    rw [m2, Int.add_mul_emod_self_left, Int.emod_eq_of_lt (by omega) (by omega)]
    omega
  · rw [if_neg (by simpa using h0), Int.emod_eq_of_lt (by omega) hr.2]
    unfold wrap64; omega

/-- Put of a number in one of the four sizes: it fails, or it is written, and read as it was. -/
theorem put_back (n : Int) (hn : -9223372036854775808 ≤ n ∧ n ≤ 9223372036854775807) (M : Nat) (hM : M = 1 ∨ M = 2 ∨ M = 4 ∨ M = 8) :
    (∃ E : Int, (E == 0) = false ∧ ∀ w, Calls Try.prog 10 #[.int .i64 n, .int .i64 M] w fun e w' => e = .returned (.tuple #[.slice none 0 0, .int .i64 E]) ∧ w' = w) ∨
    ((∀ w, Calls Try.prog 10 #[.int .i64 n, .int .i64 M] w fun e w' => ∃ g cap, e = .returned (.tuple #[.slice (some ⟨g, 0, none⟩) M cap, .int .i64 0]) ∧ (∀ W, Below w'.heap.size w' W → Row W (some ⟨g, 0, none⟩) M (fun i => (pl n M).getD i 0)) ∧ Below w.heap.size w w') ∧
      ∀ bs a, At bs a (pl n M) → gval bs a M (decide (n < 0)) = n) := by
  rcases hM with rfl | rfl | rfl | rfl
  · by_cases h : -128 ≤ n ∧ n < 256
    · right
      refine ⟨fun w => (put_1 n w (put_fits n 8 (by omega) (by omega) h)).mono ?_, fun bs a ha => gval_pl n hn bs a 1 (by omega) h ha⟩
      rintro e w' ⟨rfl, hown, hb⟩
      have ho : Own w' w.heap.size (.slice (some ⟨w.heap.size, 0, none⟩) 1 1) (pl n 1) := by unfold Own; rw [← part_full, pl_len]; exact hown
      obtain ⟨g, cap, hv, _, _, F⟩ := ho.row (by rw [pl_len]; omega)
      rw [pl_len] at hv F
      exact ⟨g, cap, by rw [hv], F, hb⟩
    · left
      obtain ⟨f1, f2⟩ := put_fits_not n 8 (by omega) h
      exact ⟨11, by decide, fun w => put_range n 1 w (by omega) f1 f2⟩
  · by_cases h : -32768 ≤ n ∧ n < 65536
    · right
      refine ⟨fun w => (put_2 n w (put_fits n 16 (by omega) (by omega) h)).mono ?_, fun bs a ha => gval_pl n hn bs a 2 (by omega) h ha⟩
      rintro e w' ⟨rfl, hown, hb⟩
      have ho : Own w' w.heap.size (.slice (some ⟨w.heap.size, 0, none⟩) 2 2) (pl n 2) := by unfold Own; rw [← part_full, pl_len]; exact hown
      obtain ⟨g, cap, hv, _, _, F⟩ := ho.row (by rw [pl_len]; omega)
      rw [pl_len] at hv F
      exact ⟨g, cap, by rw [hv], F, hb⟩
    · left
      obtain ⟨f1, f2⟩ := put_fits_not n 16 (by omega) h
      exact ⟨11, by decide, fun w => put_range n 2 w (by omega) f1 f2⟩
  · by_cases h : -2147483648 ≤ n ∧ n < 4294967296
    · right
      refine ⟨fun w => (put_4 n w (put_fits n 32 (by omega) (by omega) h)).mono ?_, fun bs a ha => gval_pl n hn bs a 4 (by omega) h ha⟩
      rintro e w' ⟨rfl, hown, hb⟩
      have ho : Own w' w.heap.size (.slice (some ⟨w.heap.size, 0, none⟩) 4 4) (pl n 4) := by unfold Own; rw [← part_full, pl_len]; exact hown
      obtain ⟨g, cap, hv, _, _, F⟩ := ho.row (by rw [pl_len]; omega)
      rw [pl_len] at hv F
      exact ⟨g, cap, by rw [hv], F, hb⟩
    · left
      obtain ⟨f1, f2⟩ := put_fits_not n 32 (by omega) h
      exact ⟨11, by decide, fun w => put_range n 4 w (by omega) f1 f2⟩
  · right
    refine ⟨fun w => (put_8 n w (put_fits n 64 (by omega) (by omega) (by omega))).mono ?_, fun bs a ha => gval_pl n hn bs a 8 (by omega) (by omega) ha⟩
    rintro e w' ⟨rfl, hown, hb⟩
    have ho : Own w' w.heap.size (.slice (some ⟨w.heap.size, 0, none⟩) 8 8) (pl n 8) := by unfold Own; rw [← part_full, pl_len]; exact hown
    obtain ⟨g, cap, hv, _, _, F⟩ := ho.row (by rw [pl_len]; omega)
    rw [pl_len] at hv F
    exact ⟨g, cap, by rw [hv], F, hb⟩

/-- The middle of three lists. -/
theorem mid_at (xs ys zs : List Int) : At (fun i => (xs ++ ys ++ zs).getD i 0) xs.length ys := by
  intro i hi
  show (xs ++ ys ++ zs).getD (xs.length + i) 0 = _
  rw [List.getD_eq_getElem?_getD, List.getElem?_append_left (by simp; omega), List.getElem?_append_right (by omega), Nat.add_sub_cancel_left, List.getD_eq_getElem?_getD]

theorem lst_of (l : List Int) (M : Nat) (h : l.length = M) : lst (fun i => l.getD i 0) M = l := by
  subst h
  apply List.ext_getElem
  · simp [lst]
  · intro i h1 h2
    simp [lst, h2]

/-- Bytes with anything ahead and behind, in every later world. -/
theorem mid_row {w : World} {base g k cap la M lb : Nat} {A P B : Nat → Int} {l : List Int} (hl : l.length = M) (hP : P = fun i => l.getD i 0) (hk : k = la + M + lb)
    (h : Own w base (.slice (some ⟨g, 0, none⟩) k cap) (([] ++ lst A la) ++ lst P M ++ lst B lb)) (hM : 1 ≤ M) :
    ∃ rb, (∀ W, Below w.heap.size w W → Row W (some ⟨g, 0, none⟩) k rb) ∧ At rb la l ∧ rb = fun i => (lst A la ++ l ++ lst B lb).getD i 0 := by
  have e : ([] ++ lst A la) ++ lst P M ++ lst B lb = lst A la ++ l ++ lst B lb := by rw [List.nil_append, hP, lst_of l M hl]
  rw [e] at h
  have hlen : (lst A la ++ l ++ lst B lb).length = k := by simp [lst_len, hl, hk]; omega
  obtain ⟨g', cap', hv, _, _, F⟩ := h.row (by rw [hlen]; omega)
  rw [hlen] at hv F
  obtain rfl : g = g' := by
    simp only [Value.slice.injEq, Option.some.injEq, Addr.mk.injEq] at hv
    exact hv.1.1
  refine ⟨_, F, ?_, rfl⟩
  have := mid_at (lst A la) l (lst B lb)
  rwa [lst_len] at this

theorem mid_byte {A B : Nat → Int} {la lb : Nat} {l : List Int} (hA : ∀ i, 0 ≤ A i ∧ A i < 256) (hB : ∀ i, 0 ≤ B i ∧ B i < 256) (hl : ∀ x ∈ l, 0 ≤ x ∧ x < 256) : ∀ i, 0 ≤ (lst A la ++ l ++ lst B lb).getD i 0 ∧ (lst A la ++ l ++ lst B lb).getD i 0 < 256 := by
  intro i
  refine getD_byte ?_ i
  intro x hx
  simp only [List.mem_append, lst, List.mem_map, List.mem_range] at hx
  rcases hx with (⟨j, _, rfl⟩ | h) | ⟨j, _, rfl⟩
  · exact hA j
  · exact hl x h
  · exact hB j
theorem back_u (n : Int) (hn : -9223372036854775808 ≤ n ∧ n ≤ 9223372036854775807) (rb : Nat → Int) (la k : Nat) (hat : At rb la (ul (n % 18446744073709551616).toNat)) (hk : la + (ul (n % 18446744073709551616).toNat).length ≤ k) :
    Num k rb la (ul (n % 18446744073709551616).toNat).length ∧ ((ul (n % 18446744073709551616).toNat).length = 10 → rb (la + 9) ≤ 1) ∧ wrap64 (uacc rb la (ul (n % 18446744073709551616).toNat).length) = n := by
  obtain ⟨h1, h2, h3⟩ := ul_read (n % 18446744073709551616).toNat rb la hat
  refine ⟨⟨ul_len_pos _, ul_len10 _ (by omega), hk, h2, h3⟩, fun h10 => ul_ten _ (by omega) rb la hat h10, ?_⟩
  rw [h1]
  unfold wrap64; omega

theorem back_s (n : Int) (hn : -9223372036854775808 ≤ n ∧ n ≤ 9223372036854775807) (rb : Nat → Int) (la k : Nat) (hrb : ∀ i, 0 ≤ rb i ∧ rb i < 256) (hat : At rb la (sl n)) (hk : la + (sl n).length ≤ k) :
    Num k rb la (sl n).length ∧ ((sl n).length = 10 → rb (la + 9) = 0 ∨ rb (la + 9) = 127) ∧ sval rb la (sl n).length = n := by
  obtain ⟨h1, h2, h3⟩ := sl_read n.natAbs n (Nat.le_refl _) rb la hat
  refine ⟨⟨sl_len_pos _, sl_len10 _ hn, hk, h2, h3⟩, fun h10 => ?_, ?_⟩
  · rw [h10] at h1 h3
    obtain ⟨u, u0, u1, e⟩ := uacc10 rb la
    have hU := uacc_in rb la 10
    have h1' : (uacc rb la 10 + 590295810358705651712) % 1180591620717411303424 - 590295810358705651712 = n := h1
    have hU2 : uacc rb la 10 < 1180591620717411303424 := hU.2
    have h3' : rb (la + 9) < 128 := h3
    have hb := hrb (la + 9)
    omega
  · by_cases h10 : (sl n).length = 10
    · rw [h10] at h1 ⊢
      have h1' : (uacc rb la 10 + 590295810358705651712) % 1180591620717411303424 - 590295810358705651712 = n := h1
      show sx 64 (uacc rb la 10) = n
      rw [sx64]
      unfold wrap64; omega
    · have := sl_len10 n hn
      unfold sval
      rw [show min (7 * (sl n).length) 64 = 7 * (sl n).length from by omega]; exact h1

theorem bk_readU (n : Int) (hn : -9223372036854775808 ≤ n ∧ n ≤ 9223372036854775807) (rb : Nat → Int) (la k L : Nat) (hL : (ul (n % 18446744073709551616).toNat).length = L) (hrb : ∀ i, 0 ≤ rb i ∧ rb i < 256) (hat : At rb la (ul (n % 18446744073709551616).toNat)) (hk : la + L ≤ k) (hk2 : k ≤ 140737488355328) (ao : Option Addr) (cap : Nat) (w : World) (hr : Row w ao k rb) :
    Calls Try.prog 21 #[.slice ao k cap, .int .i64 la] w fun e w' => e = .returned (.tuple #[.int .i64 n, .int .i64 (la + L), .int .i64 0]) ∧ Below w.heap.size w w' := by
  subst hL
  obtain ⟨h1, h2, h3⟩ := back_u n hn rb la k hat hk
  have R := readU_num ao k cap la _ rb w hr hrb hk2 h1 h2
  rw [h3] at R
  exact R

theorem bk_readS (n : Int) (hn : -9223372036854775808 ≤ n ∧ n ≤ 9223372036854775807) (rb : Nat → Int) (la k L : Nat) (hL : (sl n).length = L) (hrb : ∀ i, 0 ≤ rb i ∧ rb i < 256) (hat : At rb la (sl n)) (hk : la + L ≤ k) (hk2 : k ≤ 140737488355328) (ao : Option Addr) (cap : Nat) (w : World) (hr : Row w ao k rb) :
    Calls Try.prog 22 #[.slice ao k cap, .int .i64 la] w fun e w' => e = .returned (.tuple #[.int .i64 n, .int .i64 (la + L), .int .i64 0]) ∧ Below w.heap.size w w' := by
  subst hL
  obtain ⟨h1, h2, h3⟩ := back_s n hn rb la k hrb hat hk
  have R := readS_num ao k cap la _ rb w hr hrb hk2 h1 h2
  rw [h3] at R
  exact R

theorem bk_get (n : Int) (rb : Nat → Int) (la k M : Nat) (hM : M = 1 ∨ M = 2 ∨ M = 4 ∨ M = 8) (hrb : ∀ i, 0 ≤ rb i ∧ rb i < 256) (hg : gval rb la M (decide (n < 0)) = n) (hk : la + M ≤ k) (hk2 : k ≤ 140737488355328) (ao : Option Addr) (cap : Nat) (w : World) (hr : Row w ao k rb) :
    Calls Try.prog 11 #[.slice ao k cap, .int .i64 la, .int .i64 M, .bool (decide (n < 0))] w fun e w' => e = .returned (.tuple #[.int .i64 n, .int .i64 0]) ∧ Below w.heap.size w w' := by
  have R := get_ok ao k cap la M (decide (n < 0)) rb w hr hrb hk2 hM hk
  rw [hg] at R
  exact R

theorem pl_byte (n : Int) (s : Nat) : ∀ x ∈ pl n s, 0 ≤ x ∧ x < 256 := by
  intro x hx
  simp only [pl, List.mem_map, List.mem_range] at hx
  obtain ⟨j, _, rfl⟩ := hx
  omega

set_option maxHeartbeats 6400000 in
theorem lebBack_walk (n s : Int) (aA : Option Addr) (la cA : Nat) (A : Nat → Int) (aB : Option Addr) (lb cB : Nat) (B : Nat → Int) (w : World)
    (hn : (Lit.int .i64 n).wf = true) (hs : (Lit.int .i64 s).wf = true) (hrA : IsRow w aA la cA A) (hla : la ≤ 1048576) (hrB : IsRow w aB lb cB B) (hlb : lb ≤ 1048576) :
    Calls Try.prog 7 #[.int .i64 n, .int .i64 s, .slice aA la cA, .slice aB lb cB] w fun e w' => e = .returned (.bool true) ∧ Below w.heap.size w w' := by
  have bn : Hid _ := i64_bounds hn
  obtain ⟨j, hj, hJ⟩ := back_index s
  obtain ⟨M, hM, hcell⟩ := four_at w 3 j hj
  obtain ⟨Lu, hLu'⟩ : ∃ L, (ul (n % 18446744073709551616).toNat).length = L := ⟨_, rfl⟩
  obtain ⟨Ls, hLs'⟩ : ∃ L, (sl n).length = L := ⟨_, rfl⟩
  have lu1 := ul_len_pos (n % 18446744073709551616).toNat
  have lu2 := ul_len10 (n % 18446744073709551616).toNat (by omega)
  have ls1 := sl_len_pos n
  have ls2 := sl_len10 n bn.out
  have UR := fun w => uleb_row n w Lu hLu'
  have SR := fun w => sleb_row n w bn.out Ls hLs'
  rw [hLu'] at lu1 lu2
  rw [hLs'] at ls1 ls2
  have hLu : Hid _ := hLu'
  have hLs : Hid _ := hLs'
  have HA := hrA.row
  have HB := hrB.row
  have NA : Hid (aA = none → la = 0 ∧ cA = 0) := hrA.nil
  have NB : Hid (aB = none → lb = 0 ∧ cB = 0) := hrB.nil
  have BA : Hid (∀ i, 0 ≤ A i ∧ A i < 256) := hrA.byte
  have BB : Hid (∀ i, 0 ≤ B i ∧ B i < 256) := hrB.byte
  have hM1 : 1 ≤ M := by omega
  have hM8 : M ≤ 8 := by omega
  have PB := put_back n bn.out M hM
  have HM : Hid (M = 1 ∨ M = 2 ∨ M = 4 ∨ M = 8) := hM
  clear hn hs hrA hrB hLu' hLs' hM
  rcases PB with ⟨E, hE, PL⟩ | ⟨PL, GV⟩
  · go_enter Try.func7, Try.ntmps7
    go_wp2_with (first
      | (go_at_call 10; refine (PL _).mono ?_; rintro e w5 ⟨rfl, hw5⟩; subst hw5; have c5 : Below w.heap.size w (w.alloc (.cells #[.int .i64 1, .int .i64 2, .int .i64 4, .int .i64 8] 3)) := (Below.refl _ _).alloc (Nat.le_refl _) _)
      | (go_at_call 14; refine (num_any _ _).mono ?_; rintro e' w' ⟨rfl, hw'⟩; subst w')
      | (go_at_call 17; refine (UR _).mono ?_; rintro e w6 ⟨gu, capu, rfl, pu, qu, Fu, hb6⟩; have c6 := c5.trans (hb6.mono c5.size))
      | (go_at_call 19; refine (SR _).mono ?_; rintro e w7 ⟨gs, caps, rfl, ps, qs, Fs, hb7⟩; have c7 := c6.trans (hb7.mono c6.size))
      | (at_builtin; refine append_row _ rfl (.tmp 68) (.tmp 69) rfl w7.heap.size _ _ _ [] rfl (Own.empty w7 w7.heap.size (Nat.le_refl _)) _ _ _ A rfl ((HA.below c7 (Nat.le_refl _)).alloc _) NA.out la (by omega) (by simp; omega) (by simp) ?_; intro gU1 capU1 wU1 hoU1 qU1 rU1 hbU1; have dU1 : Below w7.heap.size w7 wU1 := ((Below.refl _ _).alloc (Nat.le_refl _) _).trans hbU1)
      | (at_builtin; refine append_row _ rfl (.tmp 70) (.tmp 71) rfl w7.heap.size _ _ _ ([] ++ lst A la) rfl hoU1 _ _ _ (fun i => (ul (n % 18446744073709551616).toNat).getD i 0) rfl (Fu _ (hb7.trans (dU1.mono hb7.size))) (by intro h; cases h) (la + Lu) rfl (by simp only [List.nil_append, lst_len]; omega) dU1.size ?_; intro gU2 capU2 wU2 hoU2 qU2 rU2 hbU2; have dU2 := dU1.trans hbU2; clear hoU1)
      | (at_builtin; refine append_row _ rfl (.tmp 72) (.tmp 73) rfl w7.heap.size _ _ _ ([] ++ lst A la ++ lst ((fun i => (ul (n % 18446744073709551616).toNat).getD i 0)) Lu) rfl hoU2 _ _ _ B rfl (HB.below (c7.trans (dU2.mono c7.size)) (Nat.le_refl _)) NB.out (la + Lu + lb) rfl (by simp only [List.nil_append, List.length_append, lst_len]; omega) dU2.size ?_; intro gU3 capU3 wU3 hoU3 qU3 rU3 hbU3; have dU3 := dU2.trans hbU3; have cU3 := c7.trans (dU3.mono c7.size); obtain ⟨rbU, RRU, hatU, erbU⟩ := mid_row (l := ul (n % 18446744073709551616).toNat) (by exact hLu.out) rfl rfl hoU3 (by omega); clear hoU2 hoU3)
      | (go_at_call 21; refine (bk_readU n bn.out rbU la (la + Lu + lb) Lu hLu.out (by rw [erbU]; exact mid_byte BA.out BB.out (ul_byte _)) hatU (by omega) (by omega) _ _ _ (RRU _ (Below.refl _ _))).mono ?_; rintro e w11 ⟨rfl, hb11⟩; have c11 := cU3.trans (hb11.mono cU3.size); have d11 := dU3.trans (hb11.mono dU3.size))
      | (at_builtin; refine append_row _ rfl (.tmp 82) (.tmp 83) rfl w11.heap.size _ _ _ [] rfl (Own.empty w11 w11.heap.size (Nat.le_refl _)) _ _ _ A rfl ((HA.below c11 (Nat.le_refl _)).alloc _) NA.out la (by omega) (by simp; omega) (by simp) ?_; intro gS1 capS1 wS1 hoS1 qS1 rS1 hbS1; have dS1 : Below w11.heap.size w11 wS1 := ((Below.refl _ _).alloc (Nat.le_refl _) _).trans hbS1)
      | (at_builtin; refine append_row _ rfl (.tmp 84) (.tmp 85) rfl w11.heap.size _ _ _ ([] ++ lst A la) rfl hoS1 _ _ _ (fun i => (sl n).getD i 0) rfl (Fs _ (d11.trans (dS1.mono d11.size))) (by intro h; cases h) (la + Ls) rfl (by simp only [List.nil_append, lst_len]; omega) dS1.size ?_; intro gS2 capS2 wS2 hoS2 qS2 rS2 hbS2; have dS2 := dS1.trans hbS2; clear hoS1)
      | (at_builtin; refine append_row _ rfl (.tmp 86) (.tmp 87) rfl w11.heap.size _ _ _ ([] ++ lst A la ++ lst ((fun i => (sl n).getD i 0)) Ls) rfl hoS2 _ _ _ B rfl (HB.below (c11.trans (dS2.mono c11.size)) (Nat.le_refl _)) NB.out (la + Ls + lb) rfl (by simp only [List.nil_append, List.length_append, lst_len]; omega) dS2.size ?_; intro gS3 capS3 wS3 hoS3 qS3 rS3 hbS3; have dS3 := dS2.trans hbS3; have cS3 := c11.trans (dS3.mono c11.size); obtain ⟨rbS, RRS, hatS, erbS⟩ := mid_row (l := sl n) (by exact hLs.out) rfl rfl hoS3 (by omega); clear hoS2 hoS3)
      | (go_at_call 22; refine (bk_readS n bn.out rbS la (la + Ls + lb) Ls hLs.out (by rw [erbS]; exact mid_byte BA.out BB.out (sl_byte n.natAbs n (Nat.le_refl _))) hatS (by omega) (by omega) _ _ _ (RRS _ (Below.refl _ _))).mono ?_; rintro e w15 ⟨rfl, hb15⟩; have c15 := cS3.trans (hb15.mono cS3.size))
      | (go_at_call 16; refine (knows_any _).mono ?_; rintro e w16 ⟨rfl, hb16⟩; have c16 := c15.trans (hb16.mono c15.size)))
    go_ret
    exact ⟨rfl, c16⟩
  · go_enter Try.func7, Try.ntmps7
    go_wp2_with (first
      | (go_at_call 10; refine (PL _).mono ?_; rintro e w1 ⟨gp, capp, rfl, Fp, hb1⟩; have c1 : Below w.heap.size w w1 := ((Below.refl _ _).alloc (Nat.le_refl _) _).trans (hb1.mono (by simp)))
      | (at_builtin; refine append_row _ rfl (.tmp 39) (.tmp 40) rfl w1.heap.size _ _ _ [] rfl (Own.empty w1 w1.heap.size (Nat.le_refl _)) _ _ _ A rfl ((HA.below c1 (Nat.le_refl _)).alloc _) NA.out la (by omega) (by simp; omega) (by simp) ?_; intro gP1 capP1 wP1 hoP1 qP1 rP1 hbP1; have dP1 : Below w1.heap.size w1 wP1 := ((Below.refl _ _).alloc (Nat.le_refl _) _).trans hbP1)
      | (at_builtin; refine append_row _ rfl (.tmp 41) (.tmp 42) rfl w1.heap.size _ _ _ ([] ++ lst A la) rfl hoP1 _ _ _ (fun i => (pl n M).getD i 0) rfl (Fp _ dP1) (by intro h; cases h) (la + M) rfl (by simp only [List.nil_append, lst_len]; omega) dP1.size ?_; intro gP2 capP2 wP2 hoP2 qP2 rP2 hbP2; have dP2 := dP1.trans hbP2; clear hoP1)
      | (at_builtin; refine append_row _ rfl (.tmp 43) (.tmp 44) rfl w1.heap.size _ _ _ ([] ++ lst A la ++ lst ((fun i => (pl n M).getD i 0)) M) rfl hoP2 _ _ _ B rfl (HB.below (c1.trans (dP2.mono c1.size)) (Nat.le_refl _)) NB.out (la + M + lb) rfl (by simp only [List.nil_append, List.length_append, lst_len]; omega) dP2.size ?_; intro gP3 capP3 wP3 hoP3 qP3 rP3 hbP3; have dP3 := dP2.trans hbP3; have cP3 := c1.trans (dP3.mono c1.size); obtain ⟨rbP, RRP, hatP, erbP⟩ := mid_row (l := pl n M) (by rw [pl_len]) rfl rfl hoP3 (by omega); clear hoP2 hoP3)
      | (go_at_call 11; refine (bk_get n rbP la (la + M + lb) M HM.out (by rw [erbP]; exact mid_byte BA.out BB.out (pl_byte n M)) (GV rbP la hatP) (by omega) (by omega) _ _ _ (RRP _ (Below.refl _ _))).mono ?_; rintro e w5 ⟨rfl, hb5⟩; have c5 := cP3.trans (hb5.mono cP3.size))
      | (go_at_call 14; refine (num_any _ _).mono ?_; rintro e' w' ⟨rfl, hw'⟩; subst w')
      | (go_at_call 17; refine (UR _).mono ?_; rintro e w6 ⟨gu, capu, rfl, pu, qu, Fu, hb6⟩; have c6 := c5.trans (hb6.mono c5.size))
      | (go_at_call 19; refine (SR _).mono ?_; rintro e w7 ⟨gs, caps, rfl, ps, qs, Fs, hb7⟩; have c7 := c6.trans (hb7.mono c6.size))
      | (at_builtin; refine append_row _ rfl (.tmp 68) (.tmp 69) rfl w7.heap.size _ _ _ [] rfl (Own.empty w7 w7.heap.size (Nat.le_refl _)) _ _ _ A rfl ((HA.below c7 (Nat.le_refl _)).alloc _) NA.out la (by omega) (by simp; omega) (by simp) ?_; intro gU1 capU1 wU1 hoU1 qU1 rU1 hbU1; have dU1 : Below w7.heap.size w7 wU1 := ((Below.refl _ _).alloc (Nat.le_refl _) _).trans hbU1)
      | (at_builtin; refine append_row _ rfl (.tmp 70) (.tmp 71) rfl w7.heap.size _ _ _ ([] ++ lst A la) rfl hoU1 _ _ _ (fun i => (ul (n % 18446744073709551616).toNat).getD i 0) rfl (Fu _ (hb7.trans (dU1.mono hb7.size))) (by intro h; cases h) (la + Lu) rfl (by simp only [List.nil_append, lst_len]; omega) dU1.size ?_; intro gU2 capU2 wU2 hoU2 qU2 rU2 hbU2; have dU2 := dU1.trans hbU2; clear hoU1)
      | (at_builtin; refine append_row _ rfl (.tmp 72) (.tmp 73) rfl w7.heap.size _ _ _ ([] ++ lst A la ++ lst ((fun i => (ul (n % 18446744073709551616).toNat).getD i 0)) Lu) rfl hoU2 _ _ _ B rfl (HB.below (c7.trans (dU2.mono c7.size)) (Nat.le_refl _)) NB.out (la + Lu + lb) rfl (by simp only [List.nil_append, List.length_append, lst_len]; omega) dU2.size ?_; intro gU3 capU3 wU3 hoU3 qU3 rU3 hbU3; have dU3 := dU2.trans hbU3; have cU3 := c7.trans (dU3.mono c7.size); obtain ⟨rbU, RRU, hatU, erbU⟩ := mid_row (l := ul (n % 18446744073709551616).toNat) (by exact hLu.out) rfl rfl hoU3 (by omega); clear hoU2 hoU3)
      | (go_at_call 21; refine (bk_readU n bn.out rbU la (la + Lu + lb) Lu hLu.out (by rw [erbU]; exact mid_byte BA.out BB.out (ul_byte _)) hatU (by omega) (by omega) _ _ _ (RRU _ (Below.refl _ _))).mono ?_; rintro e w11 ⟨rfl, hb11⟩; have c11 := cU3.trans (hb11.mono cU3.size); have d11 := dU3.trans (hb11.mono dU3.size))
      | (at_builtin; refine append_row _ rfl (.tmp 82) (.tmp 83) rfl w11.heap.size _ _ _ [] rfl (Own.empty w11 w11.heap.size (Nat.le_refl _)) _ _ _ A rfl ((HA.below c11 (Nat.le_refl _)).alloc _) NA.out la (by omega) (by simp; omega) (by simp) ?_; intro gS1 capS1 wS1 hoS1 qS1 rS1 hbS1; have dS1 : Below w11.heap.size w11 wS1 := ((Below.refl _ _).alloc (Nat.le_refl _) _).trans hbS1)
      | (at_builtin; refine append_row _ rfl (.tmp 84) (.tmp 85) rfl w11.heap.size _ _ _ ([] ++ lst A la) rfl hoS1 _ _ _ (fun i => (sl n).getD i 0) rfl (Fs _ (d11.trans (dS1.mono d11.size))) (by intro h; cases h) (la + Ls) rfl (by simp only [List.nil_append, lst_len]; omega) dS1.size ?_; intro gS2 capS2 wS2 hoS2 qS2 rS2 hbS2; have dS2 := dS1.trans hbS2; clear hoS1)
      | (at_builtin; refine append_row _ rfl (.tmp 86) (.tmp 87) rfl w11.heap.size _ _ _ ([] ++ lst A la ++ lst ((fun i => (sl n).getD i 0)) Ls) rfl hoS2 _ _ _ B rfl (HB.below (c11.trans (dS2.mono c11.size)) (Nat.le_refl _)) NB.out (la + Ls + lb) rfl (by simp only [List.nil_append, List.length_append, lst_len]; omega) dS2.size ?_; intro gS3 capS3 wS3 hoS3 qS3 rS3 hbS3; have dS3 := dS2.trans hbS3; have cS3 := c11.trans (dS3.mono c11.size); obtain ⟨rbS, RRS, hatS, erbS⟩ := mid_row (l := sl n) (by exact hLs.out) rfl rfl hoS3 (by omega); clear hoS2 hoS3)
      | (go_at_call 22; refine (bk_readS n bn.out rbS la (la + Ls + lb) Ls hLs.out (by rw [erbS]; exact mid_byte BA.out BB.out (sl_byte n.natAbs n (Nat.le_refl _))) hatS (by omega) (by omega) _ _ _ (RRS _ (Below.refl _ _))).mono ?_; rintro e w15 ⟨rfl, hb15⟩; have c15 := cS3.trans (hb15.mono cS3.size))
      | (go_at_call 16; refine (knows_any _).mono ?_; rintro e w16 ⟨rfl, hb16⟩; have c16 := c15.trans (hb16.mono c15.size)))
    go_ret
    exact ⟨rfl, c16⟩
end Go.Proofs.Ytlecnehahmdlaaa

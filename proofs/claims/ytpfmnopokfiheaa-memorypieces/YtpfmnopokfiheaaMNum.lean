/- The contracts of Store and Load. -/
import Derived.Test.YtpfmnopokfiheaaMAcc
import Derived.Test.YtpfmnopokfiheaaMBits
namespace Go.Proofs.Ytpfmnopokfiheaa
open Go.ChangeShapes Go.WideShapes Go.ChangeAt Go.RowKit Go.Maps
set_option linter.unusedVariables false
set_option linter.unusedSimpArgs false

/-- Byte k of a number. -/
def bt (v : Int) (k : Nat) : Int := v / 2 ^ (8 * k) % 256
def btL (v : Int) (n : Nat) : List Int := (List.range n).map (bt v)
theorem bt_in (v : Int) (k : Nat) : 0 ≤ bt v k ∧ bt v k < 256 := by unfold bt; omega
/-- Eight bytes, of which k are written. -/
def arB (v : Int) (k : Nat) : List Value := (List.range 8).map (fun i => Value.int .u8 (if i < k then bt v i else 0))
theorem arB_zero (v : Int) : arB v 0 = [.int .u8 0, .int .u8 0, .int .u8 0, .int .u8 0, .int .u8 0, .int .u8 0, .int .u8 0, .int .u8 0] := by simp [arB, List.range, List.range.loop]
theorem arB_len (v : Int) (k : Nat) : (arB v k).length = 8 := by simp [arB]
theorem arB_set (v : Int) (k : Nat) (hk : k < 8) : (arB v k).set k (.int .u8 (bt v k)) = arB v (k + 1) := by
  apply List.ext_getElem
  · simp [arB]
  · intro i h1 h2
    rw [List.getElem_set]
    simp only [arB, List.getElem_map, List.getElem_range]
    by_cases e : k = i
    · subst e; simp
    · rw [if_neg e]
      congr 1
      by_cases h3 : i < k
      · rw [if_pos h3, if_pos (by omega)]
      · rw [if_neg h3, if_neg (by omega)]
theorem arr86 : Try.prog.arrayLen 86 = 8 := by kernel_rfl
theorem slice86 (b n : Nat) (hn : n ≤ 8) (W : World) :
    (Instr.sliceAt 86 (.pointer (some ⟨b, 0, none⟩)) none (some (.int .i64 (n : Int))) none).run Try.prog W = .ok (.slice (some ⟨b, 0, none⟩) n 8) W := by
  have hs := info5'
  cases hq : Try.prog.info? 5 with
  | none => rw [hq] at hs; cases hs
  | some i =>
    have hi1 : i.size = 1 := by rw [hq] at hs; simpa using hs
    have g1 : (0 : Int) ≤ (n : Int) ∧ (n : Int) ≤ 8 := by omega
    simp [Instr.sliceAt, run_underlying Try.underlying86, Instr.sureAddr, Instr.sliceBounds, Instr.sliceBound, asIntOf, g1, sizeOf, typeInfo, hq, hi1, addr_add, hn]

theorem store_bad (v : Value) (a : Nat) (n x : Int) (w : World) (hn : isSizeB n = false) :
    Calls Try.prog 21 #[v, .int .u64 a, .int .i64 n, .int .u64 x] w fun e w' => e = .returned (.int .i64 1) ∧ w' = w := by
  have HS := isSize_any n w
  rw [hn] at HS
  go_enter Try.func21, Try.ntmps21
  go_wp2_with (go_at_call 47; with_reducible refine HS.mono ?_; rintro e w1 ⟨he, hw⟩; subst he; subst w1)
  go_ret
  exact ⟨rfl, rfl⟩

/-- The bytes are laid; then a Write of them. -/
theorem store_by (v : Value) (a n : Nat) (x : Int) (w : World) (hn : isSizeB n = true) (R : Int → World → Prop)
    (hW : ∀ W, Below w.heap.size w W → W.heap[w.heap.size]? = some (.cells (arB x 8).toArray 86) → Calls Try.prog 17 #[v, .int .u64 a, .slice (some ⟨w.heap.size, 0, none⟩) n 8] W fun e w' => ∃ y, e = .returned (.int .i64 y) ∧ R y w') :
    Calls Try.prog 21 #[v, .int .u64 a, .int .i64 n, .int .u64 x] w fun e w' => ∃ y, e = .returned (.int .i64 y) ∧ R y w' := by
  have HS := isSize_any n w
  rw [hn] at HS
  have hn8 : n ≤ 8 := by
    unfold isSizeB at hn
    simp at hn
    omega
  have hsl := slice86 w.heap.size n hn8
  have HW : Hid _ := ⟨hW⟩
  clear hW hn
  go_enter Try.func21, Try.ntmps21
  go_wp2_with (go_at_call 47; with_reducible refine HS.mono ?_; rintro e w1 ⟨he, hw⟩; subst he; subst w1)
  go_loopw [14] (fun i wr => ∃ k : Nat, k ≤ 8 ∧ i = .int .i64 (k : Int) ∧ Hid (wr.heap[w.heap.size]? = some (.cells (arB x k).toArray 86) ∧ Below w.heap.size w wr)) (fun i _ => 8 - (intOf i).toNat)
  case atStart =>
    refine ⟨0, by omega, rfl, ⟨?_, (Below.refl _ _).alloc (Nat.le_refl _) _⟩⟩
    rw [arB_zero]
    exact heap_last w _
  case round =>
    obtain ⟨k, hk, rfl, HX⟩ := hrel
    by_cases hlt : k < 8
    · have hh := HX.out.1
      have hc : ∀ i, i < 8 → ∃ y, wr.cell? ⟨w.heap.size, i, none⟩ = some (.int .u8 y) := fun i hi => by
        simp [World.cell?, hh, arB, hi]
      obtain ⟨y, hcy⟩ := hc k hlt
      have hfz : ∀ i, wr.frozen? ⟨w.heap.size, i, none⟩ = false := fun i => by simp [World.frozen?, hh]
      have hfk := hfz k
      have q1 : ((k : Nat) : Int) < 8 := by omega
      have e1 : (8 * (k : Int)).toNat = 8 * k := by omega
      clear hc hfz hh
      go_wp2
      have hset := setCell_eq_setRow wr w.heap.size k _ _ _ (.int .u8 (x / 2 ^ (8 * k) % 256)) HX.out.1
      refine ⟨⟨k + 1, by omega, by go_num, ⟨?_, HX.out.2.setCell (p := ⟨w.heap.size, k, none⟩) (Nat.le_refl _) _⟩⟩, by simp [intOf]; omega⟩
      rw [hset, setRow_heap wr w.heap.size _ _ _ _ HX.out.1, ← arB_set x k hlt]
      simp [bt]
    · obtain rfl : k = 8 := by omega
      have q1 : ¬ ((8 : Nat) : Int) < 8 := by omega
      have HW2 := HW.out wr HX.out.2 HX.out.1
      go_wp2_with (go_at_call 17; with_reducible refine HW2.mono ?_; rintro e w' ⟨y, he, hR⟩; subst he)
      go_ret
      exact ⟨y, rfl, hR⟩

theorem btL_get (v : Int) (n i : Nat) (h : i < n) : (btL v n).getD i 0 = bt v i := by simp [btL, h]
theorem src_arB {w : World} {mb gb g : Nat} {pl : Nat → Nat} {L : List Pz} {x : Int} {n : Nat} (hn : n ≤ 8) (hg : w.heap[g]? = some (.cells (arB x 8).toArray 86)) (hgs : ¬ MS mb gb pl L g) : Src w mb gb pl L (.slice (some ⟨g, 0, none⟩) n 8) (btL x n) := by
  have hl : (btL x n).length = n := by simp [btL]
  refine ⟨⟨some ⟨g, 0, none⟩, 8, by rw [hl], by omega, by omega, .inr ⟨g, 0, rfl, hgs, fun i hi => ?_⟩⟩, fun y hy => ?_⟩
  · rw [hl] at hi
    rw [btL_get x n i hi]
    have h8 : i < 8 := by omega
    simp [World.cell?, hg, arB, h8]
  · simp only [btL, List.mem_map] at hy
    obtain ⟨k, _, rfl⟩ := hy
    exact bt_in x k

theorem store_any (mb gb a n : Nat) (pl : Nat → Nat) (L : List Pz) (x : Int) (w : World) (h : MA w mb gb pl L) (ha : a < 18446744073709551616) (hn : isSizeB n = true) :
    Calls Try.prog 21 #[.pointer (some ⟨mb, 0, none⟩), .int .u64 a, .int .i64 n, .int .u64 x] w fun e w' => e = .returned (.int .i64 (givE L 2 61 a n)) ∧ MA w' mb gb pl (givL L 2 61 a (btL x n)) ∧ Turn (MS mb gb pl L) w w' := by
  have hn8 : n ≤ 8 := by
    unfold isSizeB at hn
    simp at hn
    omega
  have hl : (btL x n).length = n := by simp [btL]
  refine (store_by (.pointer (some ⟨mb, 0, none⟩)) a n x w hn (fun y w' => y = givE L 2 61 a n ∧ MA w' mb gb pl (givL L 2 61 a (btL x n)) ∧ Turn (MS mb gb pl L) w w') (fun W hW hg => ?_)).mono ?_
  · have := write_any mb gb a pl L W (h.below hW) ha _ (btL x n) (src_arB hn8 hg (fun hb => by have := h.slt hb; omega))
    rw [hl] at this
    refine this.mono ?_
    rintro e w' ⟨rfl, hm, ht⟩
    exact ⟨_, rfl, rfl, hm, (Turn.of_below hW _).trans ht⟩
  · rintro e w' ⟨y, rfl, rfl, hm, ht⟩
    exact ⟨rfl, hm, ht⟩

theorem store_no (v : Value) (a n : Nat) (x : Int) (w : World) (h : NM w v) (hn : isSizeB n = true) :
    Calls Try.prog 21 #[v, .int .u64 a, .int .i64 n, .int .u64 x] w fun e w' => e = .returned (.int .i64 1) ∧ Below w.heap.size w w' := by
  refine (store_by v a n x w hn (fun y w' => y = 1 ∧ Below w.heap.size w w') (fun W hW hg => ?_)).mono ?_
  · refine (write_no v a W (h.below hW) _ _ _).mono ?_
    rintro e w' ⟨rfl, hb⟩
    exact ⟨_, rfl, rfl, hW.trans (hb.mono hW.size)⟩
  · rintro e w' ⟨y, rfl, rfl, hb⟩
    exact ⟨rfl, hb⟩

theorem load_bad (mb gb a : Nat) (n : Int) (w : World) (h : w.cell? ⟨mb, 0, none⟩ = some (.map (some gb))) (hn : isSizeB n = false) :
    Calls Try.prog 23 #[.pointer (some ⟨mb, 0, none⟩), .int .u64 a, .int .i64 n] w fun e w' => e = .returned (.tuple #[.int .u64 0, .int .i64 1]) ∧ w' = w := by
  have HS := isSize_any n w
  rw [hn] at HS
  have HM := made_ok mb gb w h
  clear h
  go_enter Try.func23, Try.ntmps23
  go_wp2_with (first
    | (go_at_call 40; with_reducible refine HM.mono ?_; rintro e w1 ⟨he, hw⟩; subst he; subst w1)
    | (go_at_call 47; with_reducible refine HS.mono ?_; rintro e w1 ⟨he, hw⟩; subst he; subst w1))
  go_ret2
  exact ⟨rfl, rfl⟩
theorem load_no (v : Value) (a : Nat) (n : Int) (w : World) (h : NM w v) :
    Calls Try.prog 23 #[v, .int .u64 a, .int .i64 n] w fun e w' => e = .returned (.tuple #[.int .u64 0, .int .i64 1]) ∧ w' = w := by
  have HM := made_no v w h
  clear h
  go_enter Try.func23, Try.ntmps23
  go_wp2_with (go_at_call 40; with_reducible refine HM.mono ?_; rintro e w1 ⟨he, hw⟩; subst he; subst w1)
  go_ret2
  exact ⟨rfl, rfl⟩

/-- The number of bytes that are read. -/
def ldN (l : List Int) (n : Nat) : Int := bacc (fun i => l.getD i 0) 0 n

theorem load_any (mb gb a n : Nat) (pl : Nat → Nat) (L : List Pz) (w : World) (h : MA w mb gb pl L) (ha : a < 18446744073709551616) (hn : isSizeB n = true) :
    Calls Try.prog 23 #[.pointer (some ⟨mb, 0, none⟩), .int .u64 a, .int .i64 n] w fun e w' =>
      e = .returned (if reachB L 4 a n = true then .tuple #[.int .u64 (ldN (rdB L 4 a n) n), .int .i64 0] else .tuple #[.int .u64 0, .int .i64 61]) ∧ Below w.heap.size w w' := by
  have hn8 : n ≤ 8 := by
    unfold isSizeB at hn
    simp at hn
    omega
  have HS := isSize_any n w
  rw [hn] at HS
  have HM := made_ok mb gb w h.mcell
  have hsl := slice86 w.heap.size n hn8
  have B0 : Below w.heap.size w (w.alloc (.cells #[.int .u8 0, .int .u8 0, .int .u8 0, .int .u8 0, .int .u8 0, .int .u8 0, .int .u8 0, .int .u8 0] 86)) := (Below.refl _ _).alloc (Nat.le_refl _) _
  have HT := take_ok mb gb a n 8 w.heap.size 0 pl L 4 [.int .u8 0, .int .u8 0, .int .u8 0, .int .u8 0, .int .u8 0, .int .u8 0, .int .u8 0, .int .u8 0] 86 _ (h.below B0) ha (by omega) hn8 (by omega) (heap_last w _) (by simp; omega) (fun hb => by have := h.slt hb; omega)
  have hlen := rdB_len h.mz 4 a n
  have hle : smQ (pcsA L 4 a n) ≤ n := pcs_sum _ _ _ _
  have hbyt := rdB_byte h.mz 4 a n
  have HRB : Hid (reachB L 4 a n = (smQ (pcsA L 4 a n) == n)) := ⟨rfl⟩
  have HB : Hid _ := ⟨B0⟩
  have efl : flQ (pcsA L 4 a n) = rdB L 4 a n := rfl
  rw [efl] at HT
  generalize smQ (pcsA L 4 a n) = s at *
  generalize rdB L 4 a n = l at *
  clear h B0 hn efl
  by_cases hs : s = n
  · have hR : reachB L 4 a n = true := by rw [HRB.out]; simp [hs]
    rw [if_pos hR]
    have q3 : ((n : Nat) : Int) ≤ ((s : Nat) : Int) := by omega
    have qd : decide (((s : Nat) : Int) < ((n : Nat) : Int)) = false := by simp; omega
    have HL : Hid (l.length = n) := ⟨by omega⟩
    have HY : Hid _ := ⟨hbyt⟩
    have Hn : Hid _ := ⟨hn8⟩
    clear hR hlen hle HRB hbyt hs
    go_enter Try.func23, Try.ntmps23
    go_wp2_with (first
      | (go_at_call 40; with_reducible refine HM.mono ?_; rintro e w1 ⟨he, hw⟩; subst he; subst w1)
      | (go_at_call 47; with_reducible refine HS.mono ?_; rintro e w1 ⟨he, hw⟩; subst he; subst w1)
      | (go_at_call 46; with_reducible refine HT.mono ?_; rintro e w1 ⟨he, hw, ht⟩; subst he))
    have hcell : ∀ k, k < n → w1.cell? ⟨w.heap.size, k, none⟩ = some (.int .u8 (l.getD k 0)) := fun k hk => by
      have hl := HL.out
      simp only [World.cell?, hw, splice]
      simp [List.getElem?_append, hl, hk]
    have hin : ∀ i, 0 ≤ l.getD i 0 ∧ l.getD i 0 < 256 := getD_byte HY.out
    have HC : Hid _ := ⟨hcell⟩
    have HI : Hid _ := ⟨hin⟩
    have HBF : Hid (Below w.heap.size w w1) := ⟨HB.out.trans (ht.below (by simp) (fun k e => by omega))⟩
    clear hcell hin hw ht HT HS HM hsl
    go_loopw [9, 27] (fun v i wr => ∃ k : Nat, k ≤ n ∧ i = .int .i64 (k : Int) ∧ v = .int .u64 (bacc (fun i => l.getD i 0) 0 k % 18446744073709551616) ∧ wr = w1) (fun _ i _ => 8 - (intOf i).toNat)
    case atStart => exact ⟨0, by omega, rfl, rfl, rfl⟩
    case round =>
      obtain ⟨k, hk, rfl, rfl, rfl⟩ := hrel
      by_cases hlt : k < n
      · have hcx := HC.out k hlt
        have q1 : ((k : Nat) : Int) < ((n : Nat) : Int) := by omega
        have q2 : ((k : Nat) : Int) < 8 := by have := Hn.out; omega
        have e1 : (8 * (k : Int)).toNat = 8 * k := by omega
        obtain ⟨y, hy⟩ : ∃ y, l.getD k 0 = y := ⟨_, rfl⟩
        rw [hy] at hcx
        have hstep := bacc_step_u64 (fun i => l.getD i 0) HI.out 0 k (by omega)
        simp only [Nat.zero_add] at hstep
        rw [hy] at hstep
        have hyi := HI.out k
        rw [hy] at hyi
        have HSt : Hid _ := ⟨hstep⟩
        clear hstep hy
        go_wp2
        have h := HSt.out
        rw [show IntKind.u64.wrap y = y by rw [IntKind.wrap_u64]; omega] at h
        exact ⟨⟨k + 1, by omega, by go_num, congrArg (Value.int .u64) h, trivial⟩, by have := Hn.out; simp [intOf]; omega⟩
      · obtain rfl : k = n := by omega
        have q1 : ¬ ((k : Nat) : Int) < ((k : Nat) : Int) := by omega
        have hfin : bacc (fun i => l.getD i 0) 0 k % 18446744073709551616 = ldN l k := by
          have h := bacc_in (fun i => l.getD i 0) HI.out 0 k
          have hle : (2 : Int) ^ (8 * k) ≤ 2 ^ 64 := pow_le_i (by have := Hn.out; omega)
          unfold ldN
          omega
        rw [hfin]
        clear hfin
        go_wp2
        go_ret2
        exact ⟨rfl, HBF.out⟩
  · have hR : ¬ reachB L 4 a n = true := by rw [HRB.out]; simpa using hs
    rw [if_neg hR]
    have q3 : ((s : Nat) : Int) < ((n : Nat) : Int) := by omega
    clear hR hlen hle HRB hbyt hs
    go_enter Try.func23, Try.ntmps23
    go_wp2_with (first
      | (go_at_call 40; with_reducible refine HM.mono ?_; rintro e w1 ⟨he, hw⟩; subst he; subst w1)
      | (go_at_call 47; with_reducible refine HS.mono ?_; rintro e w1 ⟨he, hw⟩; subst he; subst w1)
      | (go_at_call 46; with_reducible refine HT.mono ?_; rintro e w1 ⟨he, hw, ht⟩; subst he))
    go_ret2
    exact ⟨rfl, HB.out.trans (ht.below (by simp) (fun k e => by omega))⟩
end Go.Proofs.Ytpfmnopokfiheaa

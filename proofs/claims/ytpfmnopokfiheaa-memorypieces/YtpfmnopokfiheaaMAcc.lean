/- The contracts of Write, Put and Read. -/
import Derived.Test.YtpfmnopokfiheaaMGive
import Derived.Deep.OwnRows
namespace Go.Proofs.Ytpfmnopokfiheaa
open Go.ChangeShapes Go.WideShapes Go.ChangeAt Go.RowKit Go.Maps
set_option linter.unusedVariables false
set_option linter.unusedSimpArgs false

/-- What give answers, and what it leaves. -/
def givE (L : List Pz) (may ref : Int) (a n : Nat) : Int := if 1048576 < n then 6 else if reachB L may a n = true then 0 else ref
def givL (L : List Pz) (may ref : Int) (a : Nat) (bl : List Int) : List Pz := if 1048576 < bl.length then L else if reachB L may a bl.length = true then (wsts bl L (pcsA L may a bl.length)).1 else L
theorem givL_key (L : List Pz) (may ref : Int) (a : Nat) (bl : List Int) : (givL L may ref a bl).map (fun p => (p.k, p.may)) = L.map (fun p => (p.k, p.may)) := by
  unfold givL
  split
  · rfl
  · split
    · exact wsts_key _ _ _
    · rfl
/-- A slice of bytes that is handed in, apart from the Memory. -/
structure Src (w : World) (mb gb : Nat) (pl : Nat → Nat) (L : List Pz) (v : Value) (bl : List Int) : Prop where
  is : ∃ ao cap, v = .slice ao bl.length cap ∧ bl.length ≤ cap ∧ cap ≤ 9223372036854775807 ∧ (bl.length = 0 ∨ ∃ sb so, ao = some ⟨sb, so, none⟩ ∧ (¬ MS mb gb pl L sb) ∧ ∀ i, i < bl.length → w.cell? ⟨sb, so + i, none⟩ = some (.int .u8 (bl.getD i 0)))
  byte : ∀ y ∈ bl, 0 ≤ y ∧ y < 256

theorem give_any (mb gb a : Nat) (pl : Nat → Nat) (L : List Pz) (may ref : Int) (w : World) (h : MA w mb gb pl L) (ha : a < 18446744073709551616) (v : Value) (bl : List Int) (hs : Src w mb gb pl L v bl) :
    Calls Try.prog 43 #[.pointer (some ⟨mb, 0, none⟩), .int .u64 a, v, .int .i64 may, .int .i64 ref] w fun e w' => e = .returned (.int .i64 (givE L may ref a bl.length)) ∧ MA w' mb gb pl (givL L may ref a bl) ∧ Turn (MS mb gb pl L) w w' := by
  obtain ⟨ao, cap, rfl, h1, h2, h3⟩ := hs.is
  unfold givE givL
  by_cases hn : 1048576 < bl.length
  · rw [if_pos hn, if_pos hn]
    refine (give_size mb gb a may ref w h.mcell ao bl.length cap hn).mono ?_
    rintro e w' ⟨rfl, hb⟩
    exact ⟨rfl, h.below hb, Turn.of_below hb _⟩
  · rw [if_neg hn, if_neg hn]
    cases hr : reachB L may a bl.length with
    | false =>
      rw [if_neg (by decide), if_neg (by decide)]
      refine (give_not mb gb a pl L may ref w h ha ao bl.length cap (by omega) hr).mono ?_
      rintro e w' ⟨rfl, hb⟩
      exact ⟨rfl, h.below hb, Turn.of_below hb _⟩
    | true =>
      rw [if_pos rfl, if_pos rfl]
      exact give_ok mb gb a pl L may ref w h ha ao bl.length cap (by omega) h1 h2 hr bl rfl hs.byte h3

theorem write_any (mb gb a : Nat) (pl : Nat → Nat) (L : List Pz) (w : World) (h : MA w mb gb pl L) (ha : a < 18446744073709551616) (v : Value) (bl : List Int) (hs : Src w mb gb pl L v bl) :
    Calls Try.prog 17 #[.pointer (some ⟨mb, 0, none⟩), .int .u64 a, v] w fun e w' => e = .returned (.int .i64 (givE L 2 61 a bl.length)) ∧ MA w' mb gb pl (givL L 2 61 a bl) ∧ Turn (MS mb gb pl L) w w' := by
  have HG := give_any mb gb a pl L 2 61 w h ha v bl hs
  clear hs h
  go_enter Try.func17, Try.ntmps17
  go_wp2_with (go_at_call 43; with_reducible refine HG.mono ?_; rintro e w1 ⟨he, hm, ht⟩; subst he)
  go_ret
  exact ⟨rfl, hm, ht⟩
theorem put_any (mb gb a : Nat) (pl : Nat → Nat) (L : List Pz) (w : World) (h : MA w mb gb pl L) (ha : a < 18446744073709551616) (v : Value) (bl : List Int) (hs : Src w mb gb pl L v bl) :
    Calls Try.prog 28 #[.pointer (some ⟨mb, 0, none⟩), .int .u64 a, v] w fun e w' => e = .returned (.int .i64 (givE L 0 60 a bl.length)) ∧ MA w' mb gb pl (givL L 0 60 a bl) ∧ Turn (MS mb gb pl L) w w' := by
  have HG := give_any mb gb a pl L 0 60 w h ha v bl hs
  clear hs h
  go_enter Try.func28, Try.ntmps28
  go_wp2_with (go_at_call 43; with_reducible refine HG.mono ?_; rintro e w1 ⟨he, hm, ht⟩; subst he)
  go_ret
  exact ⟨rfl, hm, ht⟩
theorem write_no (v : Value) (a : Nat) (w : World) (h : NM w v) (ao : Option Addr) (n cap : Nat) :
    Calls Try.prog 17 #[v, .int .u64 a, .slice ao n cap] w fun e w' => e = .returned (.int .i64 1) ∧ Below w.heap.size w w' := by
  have HG := give_no v a _ 2 61 w h ao n cap rfl
  clear h
  go_enter Try.func17, Try.ntmps17
  go_wp2_with (go_at_call 43; with_reducible refine HG.mono ?_; rintro e w1 ⟨he, hm⟩; subst he)
  go_ret
  exact ⟨rfl, hm⟩
theorem put_no (v : Value) (a : Nat) (w : World) (h : NM w v) (ao : Option Addr) (n cap : Nat) :
    Calls Try.prog 28 #[v, .int .u64 a, .slice ao n cap] w fun e w' => e = .returned (.int .i64 1) ∧ Below w.heap.size w w' := by
  have HG := give_no v a _ 0 60 w h ao n cap rfl
  clear h
  go_enter Try.func28, Try.ntmps28
  go_wp2_with (go_at_call 43; with_reducible refine HG.mono ?_; rintro e w1 ⟨he, hm⟩; subst he)
  go_ret
  exact ⟨rfl, hm⟩

theorem make5 (n : Nat) (hn : n ≤ 1048576) (w : World) : (Instr.makeSlice 31 (.int .i64 (n : Int)) (.int .i64 (n : Int))).run Try.prog w = .ok (.slice (some ⟨w.heap.size, 0, none⟩) n n) (w.alloc (.cells (List.replicate n (Value.int .u8 0)).toArray 5)) := by
  rw [run_make_row' 31 5 (.int .u8 0) 1 Try.underlying31 info5 rfl .i64 .i64 n (by omega) (by omega) w]
  congr 2
  congr 1
  apply Array.ext
  · simp [madeCells]
  · intro i h1 h2
    simp [madeCells, Nat.mod_one]

/-- The bytes that are read. -/
def rdB (L : List Pz) (may : Int) (a n : Nat) : List Int := flQ (pcsA L may a n)
theorem rdB_len {L : List Pz} (h : Mz L) (may : Int) (a n : Nat) : (rdB L may a n).length = smQ (pcsA L may a n) :=
  flQ_len _ (fun q hq => by have := pcs_vp _ _ _ _ (by omega) q hq; exact ⟨(h.ok _ this.1).len, this.2.1⟩)
theorem rdB_byte {L : List Pz} (h : Mz L) (may : Int) (a n : Nat) : ∀ y ∈ rdB L may a n, 0 ≤ y ∧ y < 256 := by
  intro y hy
  simp only [rdB, flQ, List.mem_flatMap] at hy
  obtain ⟨q, hq, hy⟩ := hy
  have := pcs_vp _ _ _ _ (by omega) q hq
  exact (h.ok _ this.1).byte y (List.mem_of_mem_drop (List.mem_of_mem_take hy))

theorem read_no (v : Value) (a : Nat) (n : Int) (w : World) (h : NM w v) :
    Calls Try.prog 20 #[v, .int .u64 a, .int .i64 n] w fun e w' => e = .returned (.tuple #[.slice none 0 0, .int .i64 1]) ∧ w' = w := by
  have HM := made_no v w h
  clear h
  go_enter Try.func20, Try.ntmps20
  go_wp2_with (go_at_call 40; with_reducible refine HM.mono ?_; rintro e w1 ⟨he, hw⟩; subst he; subst w1)
  go_ret2
  exact ⟨rfl, rfl⟩
theorem read_neg (mb gb a : Nat) (n : Int) (w : World) (h : w.cell? ⟨mb, 0, none⟩ = some (.map (some gb))) (hn : n < 0) :
    Calls Try.prog 20 #[.pointer (some ⟨mb, 0, none⟩), .int .u64 a, .int .i64 n] w fun e w' => e = .returned (.tuple #[.slice none 0 0, .int .i64 1]) ∧ w' = w := by
  have HM := made_ok mb gb w h
  clear h
  go_enter Try.func20, Try.ntmps20
  go_wp2_with (go_at_call 40; with_reducible refine HM.mono ?_; rintro e w1 ⟨he, hw⟩; subst he; subst w1)
  go_ret2
  exact ⟨rfl, rfl⟩
theorem read_big (mb gb a : Nat) (n : Int) (w : World) (h : w.cell? ⟨mb, 0, none⟩ = some (.map (some gb))) (hn : 1048576 < n) :
    Calls Try.prog 20 #[.pointer (some ⟨mb, 0, none⟩), .int .u64 a, .int .i64 n] w fun e w' => e = .returned (.tuple #[.slice none 0 0, .int .i64 6]) ∧ w' = w := by
  have HM := made_ok mb gb w h
  have q1 : ¬ n < 0 := by omega
  clear h
  go_enter Try.func20, Try.ntmps20
  go_wp2_with (go_at_call 40; with_reducible refine HM.mono ?_; rintro e w1 ⟨he, hw⟩; subst he; subst w1)
  go_ret2
  exact ⟨rfl, rfl⟩

theorem read_any (mb gb a n : Nat) (pl : Nat → Nat) (L : List Pz) (w : World) (h : MA w mb gb pl L) (ha : a < 18446744073709551616) (hn : n ≤ 1048576) :
    Calls Try.prog 20 #[.pointer (some ⟨mb, 0, none⟩), .int .u64 a, .int .i64 n] w fun e w' =>
      ((reachB L 4 a n = true → e = .returned (.tuple #[.slice (some ⟨w.heap.size, 0, none⟩) n n, .int .i64 0]) ∧ w'.heap[w.heap.size]? = some (.cells ((rdB L 4 a n).map (Value.int .u8)).toArray 5)) ∧
       (reachB L 4 a n = false → e = .returned (.tuple #[.slice none 0 0, .int .i64 61]))) ∧ Below w.heap.size w w' := by
  have HM := made_ok mb gb w h.mcell
  have hmk := make5 n hn
  have B0 : Below w.heap.size w (w.alloc (.cells (List.replicate n (Value.int .u8 0)).toArray 5)) := (Below.refl _ _).alloc (Nat.le_refl _) _
  have HT := take_ok mb gb a n n w.heap.size 0 pl L 4 (List.replicate n (Value.int .u8 0)) 5 _ (h.below B0) ha hn (Nat.le_refl _) (by omega) (heap_last w _) (by simp) (fun hb => by have := h.slt hb; omega)
  have hlen := rdB_len h.mz 4 a n
  have hle : smQ (pcsA L 4 a n) ≤ n := pcs_sum _ _ _ _
  have HRB : Hid (reachB L 4 a n = (smQ (pcsA L 4 a n) == n)) := ⟨rfl⟩
  have HX : Hid (smQ (pcsA L 4 a n) = n → splice (List.replicate n (Value.int .u8 0)) 0 ((flQ (pcsA L 4 a n)).map (Value.int .u8)) = (rdB L 4 a n).map (Value.int .u8)) := ⟨fun e => by
    unfold splice
    have : (flQ (pcsA L 4 a n)).length = n := hlen.trans e
    simp [this, rdB]⟩
  have HB : Hid _ := ⟨B0⟩
  generalize smQ (pcsA L 4 a n) = s at *
  generalize (List.replicate n (Value.int .u8 0)).toArray = Z at *
  have q1 : ¬ ((n : Nat) : Int) < 0 := by omega
  have q2 : ¬ (1048576 : Int) < ((n : Nat) : Int) := by omega
  clear h B0 hlen
  by_cases hs : s = n
  · have q3 : ¬ ((s : Nat) : Int) < ((n : Nat) : Int) := by omega
    go_enter Try.func20, Try.ntmps20
    go_wp2_with (first
      | (go_at_call 40; with_reducible refine HM.mono ?_; rintro e w1 ⟨he, hw⟩; subst he; subst w1)
      | (go_at_call 46; with_reducible refine HT.mono ?_; rintro e w1 ⟨he, hw, ht⟩; subst he))
    go_ret2
    refine ⟨⟨fun _ => ⟨rfl, ?_⟩, fun hf => ?_⟩, HB.out.trans (ht.below (by simp) (fun k e => by omega))⟩
    · rw [hw, HX.out hs]
    · rw [HRB.out] at hf
      simp [hs] at hf
  · have q3 : ((s : Nat) : Int) < ((n : Nat) : Int) := by omega
    go_enter Try.func20, Try.ntmps20
    go_wp2_with (first
      | (go_at_call 40; with_reducible refine HM.mono ?_; rintro e w1 ⟨he, hw⟩; subst he; subst w1)
      | (go_at_call 46; with_reducible refine HT.mono ?_; rintro e w1 ⟨he, hw, ht⟩; subst he))
    go_ret2
    refine ⟨⟨fun hf => ?_, fun _ => rfl⟩, HB.out.trans (ht.below (by simp) (fun k e => by omega))⟩
    rw [HRB.out] at hf
    simp at hf
    exact absurd hf hs
end Go.Proofs.Ytpfmnopokfiheaa

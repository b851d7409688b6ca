/- The law MemoryNil. -/
import Derived.Test.YtpfmnopokfiheaaMNil
namespace Go.Proofs.Ytpfmnopokfiheaa
open Go.ChangeShapes Go.WideShapes Go.ChangeAt Go.RowKit Go.Maps
set_option linter.unusedVariables false
set_option linter.unusedSimpArgs false

/-- A call. -/
def opV (k : Int) (a : Nat) (n may x : Int) (b : Value) : Value := .agg #[.int .i64 k, .int .u64 (a : Int), .int .i64 n, .int .i64 may, .int .u64 x, b]
/-- A call lies in a block. -/
structure OpC (w : World) (B : Nat) (k : Int) (a : Nat) (n may x : Int) (b : Value) : Prop where
  c0 : w.cell? ⟨B, 0, none⟩ = some (.int .i64 k)
  c1 : w.cell? ⟨B, 1, none⟩ = some (.int .u64 (a : Int))
  c2 : w.cell? ⟨B, 2, none⟩ = some (.int .i64 n)
  c3 : w.cell? ⟨B, 3, none⟩ = some (.int .i64 may)
  c4 : w.cell? ⟨B, 4, none⟩ = some (.int .u64 x)
  c5 : w.cell? ⟨B, 5, none⟩ = some b
theorem OpC.bel {w w' : World} {B : Nat} {k : Int} {a : Nat} {n may x : Int} {b : Value} (h : OpC w B k a n may x b) {m : Nat} (hm : B < m) (hb : Below m w w') : OpC w' B k a n may x b :=
  ⟨(hb.cell (p := ⟨B, 0, none⟩) hm).trans h.c0, (hb.cell (p := ⟨B, 1, none⟩) hm).trans h.c1, (hb.cell (p := ⟨B, 2, none⟩) hm).trans h.c2, (hb.cell (p := ⟨B, 3, none⟩) hm).trans h.c3, (hb.cell (p := ⟨B, 4, none⟩) hm).trans h.c4, (hb.cell (p := ⟨B, 5, none⟩) hm).trans h.c5⟩
/-- Where the law is. -/
structure NSt (w0 w : World) (v : Value) (B : Nat) (k : Int) (a : Nat) (n may x : Int) (b : Value) : Prop where
  nm : NM w v
  bel : Below w0.heap.size w0 w
  op : OpC w B k a n may x b
  lt : B < w.heap.size
theorem NSt.go {w0 w w' : World} {v : Value} {B : Nat} {k : Int} {a : Nat} {n may x : Int} {b : Value} (h : NSt w0 w v B k a n may x b) (hb : Below w.heap.size w w') : NSt w0 w' v B k a n may x b :=
  ⟨h.nm.below hb, h.bel.trans (hb.mono h.bel.size), h.op.bel h.lt hb, Nat.lt_of_lt_of_le h.lt hb.size⟩

theorem store_nil (v : Value) (a : Nat) (n x : Int) (w : World) (h : NM w v) :
    Calls Try.prog 21 #[v, .int .u64 a, .int .i64 n, .int .u64 x] w fun e w' => e = .returned (.int .i64 1) ∧ Below w.heap.size w w' := by
  cases hn : isSizeB n with
  | false =>
    refine (store_bad v a n x w hn).mono ?_
    rintro e w' ⟨rfl, rfl⟩
    exact ⟨rfl, Below.refl _ _⟩
  | true =>
    obtain ⟨m, rfl⟩ : ∃ m : Nat, n = (m : Int) := ⟨n.toNat, by unfold isSizeB at hn; simp at hn; omega⟩
    exact store_no v a m x w h hn

set_option maxRecDepth 20000 in
set_option maxHeartbeats 4000000 in
theorem memoryNil_walk (k : Int) (a : Nat) (n may x : Int) (ao : Option Addr) (len cap : Nat) (w : World) :
    Calls Try.prog 7 #[opV k a n may x (.slice ao len cap)] w fun e w' => e = .returned (.bool true) ∧ Below w.heap.size w w' := by
  unfold opV
  go_enter Try.func7, Try.ntmps7
  go_wp2
  obtain ⟨w0, hw0⟩ : ∃ w0, w.alloc (.cells #[.int .i64 k, .int .u64 (a : Int), .int .i64 n, .int .i64 may, .int .u64 x, .slice ao len cap] 33) = w0 := ⟨_, rfl⟩
  have HB0 : Hid (Below w.heap.size w w0) := ⟨by rw [← hw0]; exact (Below.refl _ _).alloc (Nat.le_refl _) _⟩
  have HO : Hid (OpC w0 w.heap.size k a n may x (.slice ao len cap)) := ⟨by rw [← hw0]; constructor <;> simp⟩
  have HL : Hid (w.heap.size < w0.heap.size) := ⟨by rw [← hw0]; simp⟩
  rw [hw0]
  clear hw0
  generalize hB : w.heap.size = B at *
  go_loopw [3, 4] (fun mv iv wr => ∃ j : Nat, j ≤ 2 ∧ iv = .int .i64 (j : Int) ∧ Hid (NSt w0 wr mv B k a n may x (.slice ao len cap))) (fun _ iv _ => 2 - (intOf iv).toNat)
  case atStart => exact ⟨0, by omega, rfl, ⟨⟨.inl rfl, Below.refl _ _, HO.out, HL.out⟩⟩⟩
  case round =>
    obtain ⟨j, hj, rfl, HS⟩ := hrel
    by_cases hlt : j < 2
    rotate_left
    · obtain rfl : j = 2 := by omega
      have q1 : ¬ ((2 : Nat) : Int) < 2 := by omega
      have HLv := live_any wr
      go_wp2_with (go_at_call 13; with_reducible refine HLv.mono ?_; rintro e w' ⟨he, hb⟩; subst he)
      go_ret
      exact ⟨rfl, by rw [hB]; exact (HB0.out.trans (HS.out.bel.mono (by have := HL.out; omega))).trans (hb.mono (by have := HL.out; have := HS.out.bel.size; omega))⟩
    · have q1 : ((j : Nat) : Int) < 2 := by omega
      have hS := HS.out
      obtain ⟨c0, c1, c2, c3, c4, c5⟩ := hS.op
      go_upto_region 9 with (first
        | (go_at_call 20; (with_reducible refine (read_no _ a n _ hS.nm).mono ?_); rintro e w' ⟨he, hw'⟩; subst he; subst w')
        | (go_at_call 22; (with_reducible refine (fetch_no _ a n _ hS.nm).mono ?_); rintro e w' ⟨he, hw'⟩; subst he; subst w')
        | (go_at_call 23; (with_reducible refine (load_no _ a n _ hS.nm).mono ?_); rintro e w' ⟨he, hw'⟩; subst he; subst w')
        | (go_at_call 24; (with_reducible refine (may_no _ a _ hS.nm).mono ?_); rintro e w' ⟨he, hw'⟩; subst he; subst w'))
      have hnil : ∀ W, NM W (.pointer none) := fun _ => .inl rfl
      go_upto_region 15 with (first
        | (go_at_call 18; (with_reducible refine (num_any _ _).mono ?_); rintro e w' ⟨he, hw'⟩; subst he; subst w')
        | (go_at_call 25; (with_reducible refine (map_no _ a n may _ hS.nm).mono ?_); rintro e w' ⟨he, hb⟩; subst he; replace hS := hS.go hb; obtain ⟨c0, c1, c2, c3, c4, c5⟩ := hS.op)
        | (go_at_call 26; (with_reducible refine (unmap_no _ a n _ hS.nm).mono ?_); rintro e w' ⟨he, hb⟩; subst he; replace hS := hS.go hb; obtain ⟨c0, c1, c2, c3, c4, c5⟩ := hS.op)
        | (go_at_call 27; (with_reducible refine (protect_no _ a n may _ hS.nm).mono ?_); rintro e w' ⟨he, hb⟩; subst he; replace hS := hS.go hb; obtain ⟨c0, c1, c2, c3, c4, c5⟩ := hS.op)
        | (go_at_call 17; (with_reducible refine (write_no _ a _ hS.nm ao len cap).mono ?_); rintro e w' ⟨he, hb⟩; subst he; replace hS := hS.go hb; obtain ⟨c0, c1, c2, c3, c4, c5⟩ := hS.op)
        | (go_at_call 21; (with_reducible refine (store_nil _ a n x _ hS.nm).mono ?_); rintro e w' ⟨he, hb⟩; subst he; replace hS := hS.go hb; obtain ⟨c0, c1, c2, c3, c4, c5⟩ := hS.op)
        | (go_at_call 28; (with_reducible refine (put_no _ a _ hS.nm ao len cap).mono ?_); rintro e w' ⟨he, hb⟩; subst he; replace hS := hS.go hb; obtain ⟨c0, c1, c2, c3, c4, c5⟩ := hS.op)
        | (go_at_call 19; (with_reducible refine (pages_no _ _ hS.nm).mono ?_); rintro e w' ⟨he, hw'⟩; subst he; subst w')
        | (go_at_call 15; (with_reducible refine (copy_no _ _ hS.nm).mono ?_); rintro e w' ⟨he, hw'⟩; subst he; subst w')
        | (go_at_call 8; (with_reducible refine (new_any _).mono ?_); rintro e w' ⟨he, hm, hb, hs⟩; subst he; have hmc := hm.mcell; clear hs hm; replace hS := hS.go hb; obtain ⟨c0, c1, c2, c3, c4, c5⟩ := hS.op)
        | (go_at_call 11; (with_reducible refine (same_nn _ (.pointer none) _ hS.nm (hnil _)).mono ?_); rintro e w' ⟨he, hw'⟩; subst he; subst w')
        | (go_at_call 11; (with_reducible refine (same_nn (.pointer none) _ _ (hnil _) hS.nm).mono ?_); rintro e w' ⟨he, hw'⟩; subst he; subst w')
        | (go_at_call 11; (with_reducible refine (same_nm _ _ _ _ hS.nm hmc).mono ?_); rintro e w' ⟨he, hw'⟩; subst he; subst w')
        | (go_at_call 11; (with_reducible refine (same_mn _ _ _ _ hS.nm hmc).mono ?_); rintro e w' ⟨he, hw'⟩; subst he; subst w'))
      have HS2 : Hid _ := ⟨hS⟩
      clear hS
      go_wp2
      have hx := HS2.out.go ((Below.refl _ w').alloc (Nat.le_refl _) (.cells #[.map none] 62))
      refine ⟨⟨j + 1, by omega, by go_num, ⟨⟨.inr ⟨w'.heap.size, rfl, by simp⟩, hx.bel, hx.op, hx.lt⟩⟩⟩, by simp [intOf]; omega⟩
end Go.Proofs.Ytpfmnopokfiheaa

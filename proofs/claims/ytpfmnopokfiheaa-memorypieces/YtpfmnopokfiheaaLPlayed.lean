/- The contracts of the law's step and of played: calls that came in, one behind the other, on both Memories. -/
import Derived.Test.YtpfmnopokfiheaaLSteps
import Derived.OwnWalk
namespace Go.Proofs.Ytpfmnopokfiheaa
open Go.ChangeShapes Go.WideShapes Go.ChangeAt Go.RowKit Go.Maps
set_option linter.unusedVariables false
set_option linter.unusedSimpArgs false

/-- A call, plainly. -/
structure Oz where
  k : Int
  a : Nat
  n : Int
  may : Int
  x : Int
  ao : Option Addr
  len : Nat
  cap : Nat
  bs : Nat → Int
def Oz.none : Oz := ⟨0, 0, 0, 0, 0, Option.none, 0, 0, fun _ => 0⟩
/-- A call that may come in. -/
structure Oz.Ok (w : World) (o : Oz) : Prop where
  a : o.a < 18446744073709551616
  n : -9223372036854775808 ≤ o.n ∧ o.n ≤ 9223372036854775807
  x : 0 ≤ o.x ∧ o.x < 18446744073709551616
  row : IsRow w o.ao o.len o.cap o.bs
  len : o.len ≤ 140737488355328
theorem IsRow.bel {w w' : World} {ao : Option Addr} {len cap : Nat} {bs : Nat → Int} (h : IsRow w ao len cap bs) (hb : Below w.heap.size w w') : IsRow w' ao len cap bs := ⟨h.row.bel hb, h.byte, h.fit, h.top, h.nil⟩
theorem isRow_blk {w : World} {ao : Option Addr} {len cap : Nat} {bs : Nat → Int} (h : IsRow w ao len cap bs) (h0 : 0 < len) {b off : Nat} (e : ao = some ⟨b, off, none⟩) : b < w.heap.size := by
  rcases h.row with h1 | ⟨b', off', e', h1⟩
  · omega
  · rw [e'] at e
    simp only [Option.some.injEq, Addr.mk.injEq] at e
    obtain ⟨rfl, rfl, _⟩ := e
    exact World.block_lt_of_cell? w ⟨b', off' + 0, none⟩ (h1 0 h0)

theorem step_any (mb gb : Nat) (pl : Nat → Nat) (L : List Pz) (rb : Nat) (lv : Value) (pb : Nat → Nat) (o : Oz) (w : World) (h : Pr w mb gb pl L rb lv pb L) (hL : L.length ≤ 1024) (hok : o.Ok w) (hna : 0 < o.len → ∀ b off, o.ao = some ⟨b, off, none⟩ → ¬ PB mb gb pl L rb lv pb L b) :
    Calls Try.prog 9 #[.pointer (some ⟨mb, 0, none⟩), .pointer (some ⟨rb, 0, none⟩), opV o.k o.a o.n o.may o.x (.slice o.ao o.len o.cap)] w fun e w' => e = .returned (.bool true) ∧ SX w w' mb gb pl L rb lv pb := by
  obtain ⟨k, a, n, may, x, ao, len, cap, bs⟩ := o
  obtain ⟨ha, hn, hx, hI, hl⟩ := hok
  dsimp only at *
  by_cases k0 : k = 0
  · subst k0; exact step_map mb gb pl L rb lv pb a n may x ao len cap w h hL ha hn
  by_cases k1 : k = 1
  · subst k1; exact step_unmap mb gb pl L rb lv pb a n may x ao len cap w h hL ha hn
  by_cases k2 : k = 2
  · subst k2; exact step_protect mb gb pl L rb lv pb a n may x ao len cap w h hL ha hn
  by_cases k3 : k = 3
  · subst k3; exact step_read mb gb pl L rb lv pb a n may x ao len cap w h hL ha
  by_cases k5 : k = 5
  · subst k5; exact step_fetch mb gb pl L rb lv pb a n may x ao len cap w h hL ha
  by_cases k6 : k = 6
  · subst k6; exact step_load mb gb pl L rb lv pb a n may x ao len cap w h hL ha
  by_cases k7 : k = 7
  · subst k7; exact step_store mb gb pl L rb lv pb a n may x ao len cap w h hL ha hn hx
  by_cases k8 : k = 8
  · subst k8; exact step_put mb gb pl L rb lv pb a n may x ao len cap bs w h hL ha hI hl hna
  exact step_write mb gb pl L rb lv pb k a n may x ao len cap bs w h hL ha hI hl hna (by simpa using k0) (by simpa using k1) (by simpa using k2) (by simpa using k3) (by simpa using k5) (by simpa using k6) (by simpa using k7) (by simpa using k8)

/-- A call lies in memory. -/
structure OpAt (w : World) (b o : Nat) (z : Oz) : Prop where
  c0 : w.cell? ⟨b, o, none⟩ = some (.int .i64 z.k)
  c1 : w.cell? ⟨b, o + 1, none⟩ = some (.int .u64 (z.a : Int))
  c2 : w.cell? ⟨b, o + 2, none⟩ = some (.int .i64 z.n)
  c3 : w.cell? ⟨b, o + 3, none⟩ = some (.int .i64 z.may)
  c4 : w.cell? ⟨b, o + 4, none⟩ = some (.int .u64 z.x)
  c5 : w.cell? ⟨b, o + 5, none⟩ = some (.slice z.ao z.len z.cap)
theorem OpAt.bel {w w' : World} {b o : Nat} {z : Oz} (h : OpAt w b o z) (hb : Below w.heap.size w w') : OpAt w' b o z := by
  have k : b < w.heap.size := World.block_lt_of_cell? w ⟨b, o, none⟩ h.c0
  exact ⟨(hb.cell (p := ⟨b, o, none⟩) k).trans h.c0, (hb.cell (p := ⟨b, o + 1, none⟩) k).trans h.c1, (hb.cell (p := ⟨b, o + 2, none⟩) k).trans h.c2, (hb.cell (p := ⟨b, o + 3, none⟩) k).trans h.c3, (hb.cell (p := ⟨b, o + 4, none⟩) k).trans h.c4, (hb.cell (p := ⟨b, o + 5, none⟩) k).trans h.c5⟩
/-- Calls that came in. -/
structure IsOps (w : World) (ao : Option Addr) (l : List Oz) : Prop where
  lie : l = [] ∨ ∃ b off, ao = some ⟨b, off, none⟩ ∧ ∀ i, i < l.length → OpAt w b (off + i * 6) (l.getD i Oz.none)
  ok : ∀ z ∈ l, z.Ok w

/-- Where played is. -/
def PS (w0 w : World) (mb gb rb : Nat) : Prop :=
  ∃ pl lv pb L, Pr w mb gb pl L rb lv pb L ∧ L.length ≤ 1024 ∧ Below w0.heap.size w0 w ∧ ∀ b, PB mb gb pl L rb lv pb L b → w0.heap.size ≤ b
theorem PS.go {w0 w w' : World} {mb gb rb : Nat} {pl : Nat → Nat} {L : List Pz} {lv : Value} {pb : Nat → Nat} (hb : Below w0.heap.size w0 w) (hn : ∀ b, PB mb gb pl L rb lv pb L b → w0.heap.size ≤ b) (h : SX w w' mb gb pl L rb lv pb) : PS w0 w' mb gb rb := by
  obtain ⟨pl', lv', pb', L', h1, h2, h3, h4⟩ := h
  refine ⟨pl', lv', pb', L', h1, h2, hb.trans (h3.below hb.size hn), fun b hx => ?_⟩
  rcases h4 b hx with h5 | h5
  · exact hn b h5
  · have := hb.size; omega
theorem ps_start {w w1 : World} (hm : MA w1 (w.heap.size + 1) w.heap.size (fun _ => 0) []) (hb : Below w.heap.size w w1) (hs : w1.heap.size = w.heap.size + 2) :
    PS w (w1.alloc (.cells #[.slice none 0 0] 28)) (w.heap.size + 1) w.heap.size w1.heap.size := by
  have hR : ∀ b, RS w1.heap.size (.slice none 0 0) (fun _ => 0) [] b → b = w1.heap.size := fun b h => by
    rcases h with h | h | ⟨p, hp, _⟩
    · exact h
    · cases h
    · cases hp
  refine ⟨fun _ => 0, .slice none 0 0, fun _ => 0, [], ⟨hm.below ((Below.refl _ _).alloc (Nat.le_refl _) _), ⟨heap_last _ _, OwnP.nil _ _ _, (fun p hp => by cases hp), (fun p hp => by cases hp), hm.mz⟩, fun b h1 h2 => ?_⟩, by simp, hb.alloc hb.size _, fun b h => ?_⟩
  · have := hm.slt h1; have := hR b h2; omega
  · rcases h with h | h
    · rcases h with h | h | ⟨p, hp, _⟩
      · omega
      · omega
      · cases hp
    · have := hR b h; omega

set_option maxRecDepth 20000 in
set_option maxHeartbeats 4000000 in
theorem played_any (ao : Option Addr) (c : Nat) (l : List Oz) (w : World) (hI : IsOps w ao l) (hl : l.length ≤ 140737488355328) :
    Calls Try.prog 14 #[.slice ao l.length c] w fun e w' => ∃ mb gb rb, e = .returned (.tuple #[.pointer (some ⟨mb, 0, none⟩), .pointer (some ⟨rb, 0, none⟩), .bool true]) ∧ PS w w' mb gb rb := by
  have HN := new_any w
  have HI : Hid _ := ⟨hI⟩
  have HB28 : ∀ W, (Instr.build 28 #[]).run Try.prog W = .ok (.agg #[.slice none 0 0]) W := fun W => by kernel_rfl
  clear hI
  go_enter Try.func14, Try.ntmps14
  go_wp2_with (first
    | (go_at_call 8; (with_reducible refine HN.mono ?_); rintro e w1 ⟨he, hm, hb, hs⟩; subst he; have HP : Hid _ := ⟨ps_start hm hb hs⟩; clear hm hb hs))
  generalize w.heap.size + 1 = mb at *
  obtain ⟨gb, hgb⟩ : ∃ gb, w.heap.size = gb := ⟨_, rfl⟩
  obtain ⟨rb, hrb⟩ : ∃ rb, w1.heap.size = rb := ⟨_, rfl⟩
  rw [hgb, hrb] at HP
  rw [hrb]
  clear hgb hrb
  generalize w1.alloc (.cells #[.slice none 0 0] 28) = W at *
  go_loopw [7] (fun i wr => ∃ k : Nat, k ≤ l.length ∧ i = .int .i64 k ∧ Hid (PS w wr mb gb rb)) (fun i _ => l.length - (intOf i).toNat)
  case atStart => exact ⟨0, by omega, rfl, HP⟩
  case round =>
    obtain ⟨k, hk, rfl, HW⟩ := hrel
    by_cases hlt : k < l.length
    · obtain ⟨pl, lv, pb, L, h1, h2, h3, h4⟩ := HW.out
      obtain ⟨b, off, rfl, hcell⟩ : ∃ b off, ao = some ⟨b, off, none⟩ ∧ ∀ i, i < l.length → OpAt w b (off + i * 6) (l.getD i Oz.none) := by
        rcases HI.out.lie with h | h
        · subst h; simp at hlt
        · exact h
      obtain ⟨c0, c1, c2, c3, c4, c5⟩ := (hcell k hlt).bel h3
      have hget : l.getD k Oz.none = l[k] := by simp [hlt]
      have hok := HI.out.ok l[k] (List.getElem_mem hlt)
      rw [hget] at c0 c1 c2 c3 c4 c5
      generalize l[k] = z at *
      have HS : Hid (Calls Try.prog 9 #[.pointer (some ⟨mb, 0, none⟩), .pointer (some ⟨rb, 0, none⟩), .agg #[.int .i64 z.k, .int .u64 (z.a : Int), .int .i64 z.n, .int .i64 z.may, .int .u64 z.x, .slice z.ao z.len z.cap]] wr fun e w' => e = .returned (.bool true) ∧ PS w w' mb gb rb) := ⟨by
        refine (step_any mb gb pl L rb lv pb z wr h1 h2 ⟨hok.a, hok.n, hok.x, hok.row.bel h3, hok.len⟩ (fun h0 b off e hp => ?_)).mono ?_
        · have := h4 b hp
          have := isRow_blk hok.row h0 e
          omega
        · rintro e w' ⟨rfl, hx⟩
          exact ⟨rfl, PS.go h3 h4 hx⟩⟩
      clear h1 h2 h3 h4 hcell hget hok HW
      go_wp2_with (go_at_call 9; (with_reducible refine HS.out.mono ?_); rintro e w2 ⟨he, hx⟩; subst he; have HX : Hid _ := ⟨hx⟩; clear hx)
      go_roundw
      case rel => exact ⟨k + 1, hlt, by go_num, HX⟩
      case measure => simp [intOf]; omega
    · obtain rfl : k = l.length := by omega
      go_wp2
      go_ret3
      exact ⟨mb, gb, rb, rfl, HW.out⟩
end Go.Proofs.Ytpfmnopokfiheaa

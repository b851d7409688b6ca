/- The document's op of an event. -/
import Derived.Test.YtpbnldfekadalaaDoorCEvN
import Derived.Test.YtpbnldfekadalaaDoorCD9
namespace Go.Proofs.YtpbnldfekadalaaDoor
open Go.ChangeShapes Go.WideShapes Go.ChangeAt Go.RowKit
set_option linter.unusedVariables false
set_option linter.unusedSimpArgs false

theorem sizeOpR : (Tryd.prog.info? 52).map (·.size) = some 3 := by kernel_rfl
theorem load_opR {w : World} {b : Nat} {o : Oq} (h : Bk w b 52 #[.int .i64 o.k, .int .i64 o.r, .int .i64 o.n]) : (loadVar 52 ⟨b, 0, none⟩).run Tryd.prog w = .ok o.val w :=
  run_loadVar_row w b _ _ _ _ _ h.hp Tryd.underlying52 rfl (by rw [sizeOpR]; rfl)
theorem load_newR (w : World) (k r n : Int) : (loadVar 52 ⟨w.heap.size, 0, none⟩).run Tryd.prog (w.alloc (.cells #[.int .i64 k, .int .i64 r, .int .i64 n] 52)) = .ok (.agg #[.int .i64 k, .int .i64 r, .int .i64 n]) (w.alloc (.cells #[.int .i64 k, .int .i64 r, .int .i64 n] 52)) :=
  load_opR (o := ⟨k, r, n⟩) (Bk.new w _ _)
theorem load_newdR (w : World) (k r n : Int) : (loadVar 52 ⟨w.heap.size, 0, none⟩).run Tryd.prog (w.alloc (.cells #[.int .i64 k, .int .i64 r, .int .i64 n] 52)).drew = .ok (.agg #[.int .i64 k, .int .i64 r, .int .i64 n]) (w.alloc (.cells #[.int .i64 k, .int .i64 r, .int .i64 n] 52)).drew :=
  load_opR (o := ⟨k, r, n⟩) ((Bk.new w _ _).of rfl)
set_option maxRecDepth 20000 in
set_option maxHeartbeats 2000000 in
theorem rop_0 (p : Int) (s : ByteArray) (ao : Option Addr) (c : Nat) (l : List Int) (n : Int) (w : World) (hs : s.toList = nm0) (h : Ia w ao l) (hl : l.length ≤ 140737488355328) (h2 : l.length = 2) :
    Calls Tryd.prog 17 #[.agg #[.int .i64 p, .string s, .slice ao l.length c], .int .i64 n] w (OE (opE s.toList l n) w) := by
  have m0 : (s.toList == nm0) = true := by rw [hs]; decide
  have m1 : (s.toList == nm1) = false := by rw [hs]; decide
  have m2 : (s.toList == nm2) = false := by rw [hs]; decide
  have m3 : (s.toList == nm3) = false := by rw [hs]; decide
  have m4 : (s.toList == nm4) = false := by rw [hs]; decide
  have m5 : (s.toList == nm5) = false := by rw [hs]; decide
  have m6 : (s.toList == nm6) = false := by rw [hs]; decide
  have m7 : (s.toList == nm7) = false := by rw [hs]; decide
  have m8 : (s.toList == nm8) = false := by rw [hs]; decide
  have m9 : (s.toList == nm9) = false := by rw [hs]; decide
  have m10 : (s.toList == nm10) = false := by rw [hs]; decide
  have e0 : opE s.toList l n = two 2 l := by unfold opE; rw [m0]; rfl
  rw [e0]
  clear e0 hs
  obtain ⟨x, y, rfl⟩ : ∃ x y, l = [x, y] := by
    match l, h2 with
    | [x, y], _ => exact ⟨x, y, rfl⟩
  obtain ⟨b, off, rfl, hc⟩ : ∃ b off, ao = some ⟨b, off, none⟩ ∧ ∀ i, i < 2 → w.cell? ⟨b, off + i, none⟩ = some (.int .i64 ([x, y].getD i 0)) := by
    rcases h with h | h
    · cases h
    · exact h
  have x0 : w.cell? ⟨b, off, none⟩ = some (.int .i64 x) := hc 0 (by omega)
  have x1 : w.cell? ⟨b, off + 1, none⟩ = some (.int .i64 y) := hc 1 (by omega)
  show Calls Tryd.prog 17 #[.agg #[.int .i64 p, .string s, .slice (some ⟨b, off, none⟩) 2 c], .int .i64 n] w (OE (some ⟨2, x, y⟩) w)
  clear hc h h2 hl
  have HB0 : Below w.heap.size w (w.alloc (.cells #[.int .i64 p, .string s, .slice (some ⟨b, off, none⟩) 2 c] 26)) := bel_new _ _ _
  have HB1 : Below w.heap.size w ((w.alloc (.cells #[.int .i64 p, .string s, .slice (some ⟨b, off, none⟩) 2 c] 26)).alloc (.cells #[.int .i64 0, .int .i64 0, .int .i64 0] 52)) := HB0.alloc HB0.size _
  have y0 := up_belI x0 HB1
  have z0 := up_belI x0 HB1.drew
  have y1 := up_belI x1 HB1
  have z1 := up_belI x1 HB1.drew
  go_enter Tryd.func17, Tryd.ntmps17
  go_wp2
  go_region
  go_wp2
  (try simp only [Exit.inBlock, Exit.then])
  have L := load_newdR (w.alloc (.cells #[.int .i64 p, .string s, .slice (some ⟨b, off, none⟩) 2 c] 26)) (2) (x) (y)
  rw [show (w.alloc (.cells #[.int .i64 p, .string s, .slice (some ⟨b, off, none⟩) 2 c] 26)).heap.size = w.heap.size + 1 by simp] at L
  refine bodyPost_ret (results_ctE rfl rfl L) rfl ?_
  exact ⟨⟨2, x, y⟩, rfl, fun q hq => (by cases hq; rfl), ((bel_new _ _ _).alloc (bel_new _ _ _).size _).drew⟩
set_option maxRecDepth 20000 in
set_option maxHeartbeats 2000000 in
theorem rop_0n (p : Int) (s : ByteArray) (ao : Option Addr) (c : Nat) (l : List Int) (n : Int) (w : World) (hs : s.toList = nm0) (h : Ia w ao l) (hl : l.length ≤ 140737488355328) (h2 : l.length ≠ 2) :
    Calls Tryd.prog 17 #[.agg #[.int .i64 p, .string s, .slice ao l.length c], .int .i64 n] w (OE (opE s.toList l n) w) := by
  have m0 : (s.toList == nm0) = true := by rw [hs]; decide
  have m1 : (s.toList == nm1) = false := by rw [hs]; decide
  have m2 : (s.toList == nm2) = false := by rw [hs]; decide
  have m3 : (s.toList == nm3) = false := by rw [hs]; decide
  have m4 : (s.toList == nm4) = false := by rw [hs]; decide
  have m5 : (s.toList == nm5) = false := by rw [hs]; decide
  have m6 : (s.toList == nm6) = false := by rw [hs]; decide
  have m7 : (s.toList == nm7) = false := by rw [hs]; decide
  have m8 : (s.toList == nm8) = false := by rw [hs]; decide
  have m9 : (s.toList == nm9) = false := by rw [hs]; decide
  have m10 : (s.toList == nm10) = false := by rw [hs]; decide
  have e0 : opE s.toList l n = two 2 l := by unfold opE; rw [m0]; rfl
  rw [e0]
  clear e0 hs
  have e1 : two 2 l = none := by unfold two; rw [if_neg h2]
  rw [e1]
  have n1 : ((l.length : Int) == 2) = false := by simp; omega
  obtain ⟨t, n2⟩ : ∃ t, ((l.length : Int) == 1) = t := ⟨_, rfl⟩
  clear h h2 e1
  generalize l.length = m at *
  go_enter Tryd.func17, Tryd.ntmps17
  go_wp2
  (try simp only [Exit.inBlock, Exit.then])
  have L := load_newR (w.alloc (.cells #[.int .i64 p, .string s, .slice ao m c] 26)) 0 0 0
  rw [show (w.alloc (.cells #[.int .i64 p, .string s, .slice ao m c] 26)).heap.size = w.heap.size + 1 by simp] at L
  refine bodyPost_ret (results_ctE rfl rfl L) rfl ?_
  exact ⟨⟨0, 0, 0⟩, rfl, fun q hq => (by cases hq), ((bel_new _ _ _).alloc (bel_new _ _ _).size _)⟩
set_option maxRecDepth 20000 in
set_option maxHeartbeats 2000000 in
theorem rop_1 (p : Int) (s : ByteArray) (ao : Option Addr) (c : Nat) (l : List Int) (n : Int) (w : World) (hs : s.toList = nm1) (h : Ia w ao l) (hl : l.length ≤ 140737488355328) (h2 : l.length = 1) :
    Calls Tryd.prog 17 #[.agg #[.int .i64 p, .string s, .slice ao l.length c], .int .i64 n] w (OE (opE s.toList l n) w) := by
  have m0 : (s.toList == nm0) = false := by rw [hs]; decide
  have m1 : (s.toList == nm1) = true := by rw [hs]; decide
  have m2 : (s.toList == nm2) = false := by rw [hs]; decide
  have m3 : (s.toList == nm3) = false := by rw [hs]; decide
  have m4 : (s.toList == nm4) = false := by rw [hs]; decide
  have m5 : (s.toList == nm5) = false := by rw [hs]; decide
  have m6 : (s.toList == nm6) = false := by rw [hs]; decide
  have m7 : (s.toList == nm7) = false := by rw [hs]; decide
  have m8 : (s.toList == nm8) = false := by rw [hs]; decide
  have m9 : (s.toList == nm9) = false := by rw [hs]; decide
  have m10 : (s.toList == nm10) = false := by rw [hs]; decide
  have e0 : opE s.toList l n = one 3 l := by unfold opE; rw [m0, m1]; rfl
  rw [e0]
  clear e0 hs
  obtain ⟨x, rfl⟩ : ∃ x, l = [x] := by
    match l, h2 with
    | [x], _ => exact ⟨x, rfl⟩
  obtain ⟨b, off, rfl, hc⟩ : ∃ b off, ao = some ⟨b, off, none⟩ ∧ ∀ i, i < 1 → w.cell? ⟨b, off + i, none⟩ = some (.int .i64 ([x].getD i 0)) := by
    rcases h with h | h
    · cases h
    · exact h
  have x0 : w.cell? ⟨b, off, none⟩ = some (.int .i64 x) := hc 0 (by omega)
  show Calls Tryd.prog 17 #[.agg #[.int .i64 p, .string s, .slice (some ⟨b, off, none⟩) 1 c], .int .i64 n] w (OE (some ⟨3, 0, x⟩) w)
  clear hc h h2 hl
  have HB0 : Below w.heap.size w (w.alloc (.cells #[.int .i64 p, .string s, .slice (some ⟨b, off, none⟩) 1 c] 26)) := bel_new _ _ _
  have HB1 : Below w.heap.size w ((w.alloc (.cells #[.int .i64 p, .string s, .slice (some ⟨b, off, none⟩) 1 c] 26)).alloc (.cells #[.int .i64 0, .int .i64 0, .int .i64 0] 52)) := HB0.alloc HB0.size _
  have y0 := up_belI x0 HB1
  have z0 := up_belI x0 HB1.drew
  go_enter Tryd.func17, Tryd.ntmps17
  go_wp2
  (try simp only [Exit.inBlock, Exit.then])
  have L := load_newR (w.alloc (.cells #[.int .i64 p, .string s, .slice (some ⟨b, off, none⟩) 1 c] 26)) (3) (0) (x)
  rw [show (w.alloc (.cells #[.int .i64 p, .string s, .slice (some ⟨b, off, none⟩) 1 c] 26)).heap.size = w.heap.size + 1 by simp] at L
  refine bodyPost_ret (results_ctE rfl rfl L) rfl ?_
  exact ⟨⟨3, 0, x⟩, rfl, fun q hq => (by cases hq; rfl), ((bel_new _ _ _).alloc (bel_new _ _ _).size _)⟩
set_option maxRecDepth 20000 in
set_option maxHeartbeats 2000000 in
theorem rop_1n (p : Int) (s : ByteArray) (ao : Option Addr) (c : Nat) (l : List Int) (n : Int) (w : World) (hs : s.toList = nm1) (h : Ia w ao l) (hl : l.length ≤ 140737488355328) (h2 : l.length ≠ 1) :
    Calls Tryd.prog 17 #[.agg #[.int .i64 p, .string s, .slice ao l.length c], .int .i64 n] w (OE (opE s.toList l n) w) := by
  have m0 : (s.toList == nm0) = false := by rw [hs]; decide
  have m1 : (s.toList == nm1) = true := by rw [hs]; decide
  have m2 : (s.toList == nm2) = false := by rw [hs]; decide
  have m3 : (s.toList == nm3) = false := by rw [hs]; decide
  have m4 : (s.toList == nm4) = false := by rw [hs]; decide
  have m5 : (s.toList == nm5) = false := by rw [hs]; decide
  have m6 : (s.toList == nm6) = false := by rw [hs]; decide
  have m7 : (s.toList == nm7) = false := by rw [hs]; decide
  have m8 : (s.toList == nm8) = false := by rw [hs]; decide
  have m9 : (s.toList == nm9) = false := by rw [hs]; decide
  have m10 : (s.toList == nm10) = false := by rw [hs]; decide
  have e0 : opE s.toList l n = one 3 l := by unfold opE; rw [m0, m1]; rfl
  rw [e0]
  clear e0 hs
  have e1 : one 3 l = none := by unfold one; rw [if_neg h2]
  rw [e1]
  have n1 : ((l.length : Int) == 1) = false := by simp; omega
  obtain ⟨t, n2⟩ : ∃ t, ((l.length : Int) == 2) = t := ⟨_, rfl⟩
  clear h h2 e1
  generalize l.length = m at *
  go_enter Tryd.func17, Tryd.ntmps17
  go_wp2
  (try simp only [Exit.inBlock, Exit.then])
  have L := load_newR (w.alloc (.cells #[.int .i64 p, .string s, .slice ao m c] 26)) 0 0 0
  rw [show (w.alloc (.cells #[.int .i64 p, .string s, .slice ao m c] 26)).heap.size = w.heap.size + 1 by simp] at L
  refine bodyPost_ret (results_ctE rfl rfl L) rfl ?_
  exact ⟨⟨0, 0, 0⟩, rfl, fun q hq => (by cases hq), ((bel_new _ _ _).alloc (bel_new _ _ _).size _)⟩
set_option maxRecDepth 20000 in
set_option maxHeartbeats 2000000 in
theorem rop_2 (p : Int) (s : ByteArray) (ao : Option Addr) (c : Nat) (l : List Int) (n : Int) (w : World) (hs : s.toList = nm2) (h : Ia w ao l) (hl : l.length ≤ 140737488355328) (h2 : l.length = 1) :
    Calls Tryd.prog 17 #[.agg #[.int .i64 p, .string s, .slice ao l.length c], .int .i64 n] w (OE (opE s.toList l n) w) := by
  have m0 : (s.toList == nm0) = false := by rw [hs]; decide
  have m1 : (s.toList == nm1) = false := by rw [hs]; decide
  have m2 : (s.toList == nm2) = true := by rw [hs]; decide
  have m3 : (s.toList == nm3) = false := by rw [hs]; decide
  have m4 : (s.toList == nm4) = false := by rw [hs]; decide
  have m5 : (s.toList == nm5) = false := by rw [hs]; decide
  have m6 : (s.toList == nm6) = false := by rw [hs]; decide
  have m7 : (s.toList == nm7) = false := by rw [hs]; decide
  have m8 : (s.toList == nm8) = false := by rw [hs]; decide
  have m9 : (s.toList == nm9) = false := by rw [hs]; decide
  have m10 : (s.toList == nm10) = false := by rw [hs]; decide
  have e0 : opE s.toList l n = reg 4 l := by unfold opE; rw [m0, m1, m2]; rfl
  rw [e0]
  clear e0 hs
  obtain ⟨x, rfl⟩ : ∃ x, l = [x] := by
    match l, h2 with
    | [x], _ => exact ⟨x, rfl⟩
  obtain ⟨b, off, rfl, hc⟩ : ∃ b off, ao = some ⟨b, off, none⟩ ∧ ∀ i, i < 1 → w.cell? ⟨b, off + i, none⟩ = some (.int .i64 ([x].getD i 0)) := by
    rcases h with h | h
    · cases h
    · exact h
  have x0 : w.cell? ⟨b, off, none⟩ = some (.int .i64 x) := hc 0 (by omega)
  show Calls Tryd.prog 17 #[.agg #[.int .i64 p, .string s, .slice (some ⟨b, off, none⟩) 1 c], .int .i64 n] w (OE (some ⟨4, x, 0⟩) w)
  clear hc h h2 hl
  have HB0 : Below w.heap.size w (w.alloc (.cells #[.int .i64 p, .string s, .slice (some ⟨b, off, none⟩) 1 c] 26)) := bel_new _ _ _
  have HB1 : Below w.heap.size w ((w.alloc (.cells #[.int .i64 p, .string s, .slice (some ⟨b, off, none⟩) 1 c] 26)).alloc (.cells #[.int .i64 0, .int .i64 0, .int .i64 0] 52)) := HB0.alloc HB0.size _
  have y0 := up_belI x0 HB1
  have z0 := up_belI x0 HB1.drew
  go_enter Tryd.func17, Tryd.ntmps17
  go_wp2
  (try simp only [Exit.inBlock, Exit.then])
  have L := load_newR (w.alloc (.cells #[.int .i64 p, .string s, .slice (some ⟨b, off, none⟩) 1 c] 26)) (4) (x) (0)
  rw [show (w.alloc (.cells #[.int .i64 p, .string s, .slice (some ⟨b, off, none⟩) 1 c] 26)).heap.size = w.heap.size + 1 by simp] at L
  refine bodyPost_ret (results_ctE rfl rfl L) rfl ?_
  exact ⟨⟨4, x, 0⟩, rfl, fun q hq => (by cases hq; rfl), ((bel_new _ _ _).alloc (bel_new _ _ _).size _)⟩
set_option maxRecDepth 20000 in
set_option maxHeartbeats 2000000 in
theorem rop_2n (p : Int) (s : ByteArray) (ao : Option Addr) (c : Nat) (l : List Int) (n : Int) (w : World) (hs : s.toList = nm2) (h : Ia w ao l) (hl : l.length ≤ 140737488355328) (h2 : l.length ≠ 1) :
    Calls Tryd.prog 17 #[.agg #[.int .i64 p, .string s, .slice ao l.length c], .int .i64 n] w (OE (opE s.toList l n) w) := by
  have m0 : (s.toList == nm0) = false := by rw [hs]; decide
  have m1 : (s.toList == nm1) = false := by rw [hs]; decide
  have m2 : (s.toList == nm2) = true := by rw [hs]; decide
  have m3 : (s.toList == nm3) = false := by rw [hs]; decide
  have m4 : (s.toList == nm4) = false := by rw [hs]; decide
  have m5 : (s.toList == nm5) = false := by rw [hs]; decide
  have m6 : (s.toList == nm6) = false := by rw [hs]; decide
  have m7 : (s.toList == nm7) = false := by rw [hs]; decide
  have m8 : (s.toList == nm8) = false := by rw [hs]; decide
  have m9 : (s.toList == nm9) = false := by rw [hs]; decide
  have m10 : (s.toList == nm10) = false := by rw [hs]; decide
  have e0 : opE s.toList l n = reg 4 l := by unfold opE; rw [m0, m1, m2]; rfl
  rw [e0]
  clear e0 hs
  have e1 : reg 4 l = none := by unfold reg; rw [if_neg h2]
  rw [e1]
  have n1 : ((l.length : Int) == 1) = false := by simp; omega
  obtain ⟨t, n2⟩ : ∃ t, ((l.length : Int) == 2) = t := ⟨_, rfl⟩
  clear h h2 e1
  generalize l.length = m at *
  go_enter Tryd.func17, Tryd.ntmps17
  go_wp2
  (try simp only [Exit.inBlock, Exit.then])
  have L := load_newR (w.alloc (.cells #[.int .i64 p, .string s, .slice ao m c] 26)) 0 0 0
  rw [show (w.alloc (.cells #[.int .i64 p, .string s, .slice ao m c] 26)).heap.size = w.heap.size + 1 by simp] at L
  refine bodyPost_ret (results_ctE rfl rfl L) rfl ?_
  exact ⟨⟨0, 0, 0⟩, rfl, fun q hq => (by cases hq), ((bel_new _ _ _).alloc (bel_new _ _ _).size _)⟩
set_option maxRecDepth 20000 in
set_option maxHeartbeats 2000000 in
theorem rop_3 (p : Int) (s : ByteArray) (ao : Option Addr) (c : Nat) (l : List Int) (n : Int) (w : World) (hs : s.toList = nm3) (h : Ia w ao l) (hl : l.length ≤ 140737488355328) (h2 : l.length = 2) :
    Calls Tryd.prog 17 #[.agg #[.int .i64 p, .string s, .slice ao l.length c], .int .i64 n] w (OE (opE s.toList l n) w) := by
  have m0 : (s.toList == nm0) = false := by rw [hs]; decide
  have m1 : (s.toList == nm1) = false := by rw [hs]; decide
  have m2 : (s.toList == nm2) = false := by rw [hs]; decide
  have m3 : (s.toList == nm3) = true := by rw [hs]; decide
  have m4 : (s.toList == nm4) = false := by rw [hs]; decide
  have m5 : (s.toList == nm5) = false := by rw [hs]; decide
  have m6 : (s.toList == nm6) = false := by rw [hs]; decide
  have m7 : (s.toList == nm7) = false := by rw [hs]; decide
  have m8 : (s.toList == nm8) = false := by rw [hs]; decide
  have m9 : (s.toList == nm9) = false := by rw [hs]; decide
  have m10 : (s.toList == nm10) = false := by rw [hs]; decide
  have e0 : opE s.toList l n = two 5 l := by unfold opE; rw [m0, m1, m2, m3]; rfl
  rw [e0]
  clear e0 hs
  obtain ⟨x, y, rfl⟩ : ∃ x y, l = [x, y] := by
    match l, h2 with
    | [x, y], _ => exact ⟨x, y, rfl⟩
  obtain ⟨b, off, rfl, hc⟩ : ∃ b off, ao = some ⟨b, off, none⟩ ∧ ∀ i, i < 2 → w.cell? ⟨b, off + i, none⟩ = some (.int .i64 ([x, y].getD i 0)) := by
    rcases h with h | h
    · cases h
    · exact h
  have x0 : w.cell? ⟨b, off, none⟩ = some (.int .i64 x) := hc 0 (by omega)
  have x1 : w.cell? ⟨b, off + 1, none⟩ = some (.int .i64 y) := hc 1 (by omega)
  show Calls Tryd.prog 17 #[.agg #[.int .i64 p, .string s, .slice (some ⟨b, off, none⟩) 2 c], .int .i64 n] w (OE (some ⟨5, x, y⟩) w)
  clear hc h h2 hl
  have HB0 : Below w.heap.size w (w.alloc (.cells #[.int .i64 p, .string s, .slice (some ⟨b, off, none⟩) 2 c] 26)) := bel_new _ _ _
  have HB1 : Below w.heap.size w ((w.alloc (.cells #[.int .i64 p, .string s, .slice (some ⟨b, off, none⟩) 2 c] 26)).alloc (.cells #[.int .i64 0, .int .i64 0, .int .i64 0] 52)) := HB0.alloc HB0.size _
  have y0 := up_belI x0 HB1
  have z0 := up_belI x0 HB1.drew
  have y1 := up_belI x1 HB1
  have z1 := up_belI x1 HB1.drew
  go_enter Tryd.func17, Tryd.ntmps17
  go_wp2
  go_region
  go_wp2
  (try simp only [Exit.inBlock, Exit.then])
  have L := load_newdR (w.alloc (.cells #[.int .i64 p, .string s, .slice (some ⟨b, off, none⟩) 2 c] 26)) (5) (x) (y)
  rw [show (w.alloc (.cells #[.int .i64 p, .string s, .slice (some ⟨b, off, none⟩) 2 c] 26)).heap.size = w.heap.size + 1 by simp] at L
  refine bodyPost_ret (results_ctE rfl rfl L) rfl ?_
  exact ⟨⟨5, x, y⟩, rfl, fun q hq => (by cases hq; rfl), ((bel_new _ _ _).alloc (bel_new _ _ _).size _).drew⟩
set_option maxRecDepth 20000 in
set_option maxHeartbeats 2000000 in
theorem rop_3n (p : Int) (s : ByteArray) (ao : Option Addr) (c : Nat) (l : List Int) (n : Int) (w : World) (hs : s.toList = nm3) (h : Ia w ao l) (hl : l.length ≤ 140737488355328) (h2 : l.length ≠ 2) :
    Calls Tryd.prog 17 #[.agg #[.int .i64 p, .string s, .slice ao l.length c], .int .i64 n] w (OE (opE s.toList l n) w) := by
  have m0 : (s.toList == nm0) = false := by rw [hs]; decide
  have m1 : (s.toList == nm1) = false := by rw [hs]; decide
  have m2 : (s.toList == nm2) = false := by rw [hs]; decide
  have m3 : (s.toList == nm3) = true := by rw [hs]; decide
  have m4 : (s.toList == nm4) = false := by rw [hs]; decide
  have m5 : (s.toList == nm5) = false := by rw [hs]; decide
  have m6 : (s.toList == nm6) = false := by rw [hs]; decide
  have m7 : (s.toList == nm7) = false := by rw [hs]; decide
  have m8 : (s.toList == nm8) = false := by rw [hs]; decide
  have m9 : (s.toList == nm9) = false := by rw [hs]; decide
  have m10 : (s.toList == nm10) = false := by rw [hs]; decide
  have e0 : opE s.toList l n = two 5 l := by unfold opE; rw [m0, m1, m2, m3]; rfl
  rw [e0]
  clear e0 hs
  have e1 : two 5 l = none := by unfold two; rw [if_neg h2]
  rw [e1]
  have n1 : ((l.length : Int) == 2) = false := by simp; omega
  obtain ⟨t, n2⟩ : ∃ t, ((l.length : Int) == 1) = t := ⟨_, rfl⟩
  clear h h2 e1
  generalize l.length = m at *
  go_enter Tryd.func17, Tryd.ntmps17
  go_wp2
  (try simp only [Exit.inBlock, Exit.then])
  have L := load_newR (w.alloc (.cells #[.int .i64 p, .string s, .slice ao m c] 26)) 0 0 0
  rw [show (w.alloc (.cells #[.int .i64 p, .string s, .slice ao m c] 26)).heap.size = w.heap.size + 1 by simp] at L
  refine bodyPost_ret (results_ctE rfl rfl L) rfl ?_
  exact ⟨⟨0, 0, 0⟩, rfl, fun q hq => (by cases hq), ((bel_new _ _ _).alloc (bel_new _ _ _).size _)⟩
set_option maxRecDepth 20000 in
set_option maxHeartbeats 2000000 in
theorem rop_4 (p : Int) (s : ByteArray) (ao : Option Addr) (c : Nat) (l : List Int) (n : Int) (w : World) (hs : s.toList = nm4) (h : Ia w ao l) (hl : l.length ≤ 140737488355328) (h2 : l.length = 2) :
    Calls Tryd.prog 17 #[.agg #[.int .i64 p, .string s, .slice ao l.length c], .int .i64 n] w (OE (opE s.toList l n) w) := by
  have m0 : (s.toList == nm0) = false := by rw [hs]; decide
  have m1 : (s.toList == nm1) = false := by rw [hs]; decide
  have m2 : (s.toList == nm2) = false := by rw [hs]; decide
  have m3 : (s.toList == nm3) = false := by rw [hs]; decide
  have m4 : (s.toList == nm4) = true := by rw [hs]; decide
  have m5 : (s.toList == nm5) = false := by rw [hs]; decide
  have m6 : (s.toList == nm6) = false := by rw [hs]; decide
  have m7 : (s.toList == nm7) = false := by rw [hs]; decide
  have m8 : (s.toList == nm8) = false := by rw [hs]; decide
  have m9 : (s.toList == nm9) = false := by rw [hs]; decide
  have m10 : (s.toList == nm10) = false := by rw [hs]; decide
  have e0 : opE s.toList l n = (two 5 l).map (·.far (-n)) := by unfold opE; rw [m0, m1, m2, m3, m4]; rfl
  rw [e0]
  clear e0 hs
  obtain ⟨x, y, rfl⟩ : ∃ x y, l = [x, y] := by
    match l, h2 with
    | [x, y], _ => exact ⟨x, y, rfl⟩
  obtain ⟨b, off, rfl, hc⟩ : ∃ b off, ao = some ⟨b, off, none⟩ ∧ ∀ i, i < 2 → w.cell? ⟨b, off + i, none⟩ = some (.int .i64 ([x, y].getD i 0)) := by
    rcases h with h | h
    · cases h
    · exact h
  have x0 : w.cell? ⟨b, off, none⟩ = some (.int .i64 x) := hc 0 (by omega)
  have x1 : w.cell? ⟨b, off + 1, none⟩ = some (.int .i64 y) := hc 1 (by omega)
  show Calls Tryd.prog 17 #[.agg #[.int .i64 p, .string s, .slice (some ⟨b, off, none⟩) 2 c], .int .i64 n] w (OE (some ⟨5, x, wrap64 (y + -n)⟩) w)
  clear hc h h2 hl
  have HB0 : Below w.heap.size w (w.alloc (.cells #[.int .i64 p, .string s, .slice (some ⟨b, off, none⟩) 2 c] 26)) := bel_new _ _ _
  have HB1 : Below w.heap.size w ((w.alloc (.cells #[.int .i64 p, .string s, .slice (some ⟨b, off, none⟩) 2 c] 26)).alloc (.cells #[.int .i64 0, .int .i64 0, .int .i64 0] 52)) := HB0.alloc HB0.size _
  have y0 := up_belI x0 HB1
  have z0 := up_belI x0 HB1.drew
  have y1 := up_belI x1 HB1
  have z1 := up_belI x1 HB1.drew
  have en : y - n = y + -n := Int.sub_eq_add_neg
  go_enter Tryd.func17, Tryd.ntmps17
  go_wp2
  go_region
  go_wp2
  (try simp only [Exit.inBlock, Exit.then])
  have L := load_newdR (w.alloc (.cells #[.int .i64 p, .string s, .slice (some ⟨b, off, none⟩) 2 c] 26)) (5) (x) (wrap64 (y + -n))
  rw [show (w.alloc (.cells #[.int .i64 p, .string s, .slice (some ⟨b, off, none⟩) 2 c] 26)).heap.size = w.heap.size + 1 by simp] at L
  refine bodyPost_ret (results_ctE rfl rfl L) rfl ?_
  exact ⟨⟨5, x, wrap64 (y + -n)⟩, rfl, fun q hq => (by cases hq; rfl), ((bel_new _ _ _).alloc (bel_new _ _ _).size _).drew⟩
set_option maxRecDepth 20000 in
set_option maxHeartbeats 2000000 in
theorem rop_4n (p : Int) (s : ByteArray) (ao : Option Addr) (c : Nat) (l : List Int) (n : Int) (w : World) (hs : s.toList = nm4) (h : Ia w ao l) (hl : l.length ≤ 140737488355328) (h2 : l.length ≠ 2) :
    Calls Tryd.prog 17 #[.agg #[.int .i64 p, .string s, .slice ao l.length c], .int .i64 n] w (OE (opE s.toList l n) w) := by
  have m0 : (s.toList == nm0) = false := by rw [hs]; decide
  have m1 : (s.toList == nm1) = false := by rw [hs]; decide
  have m2 : (s.toList == nm2) = false := by rw [hs]; decide
  have m3 : (s.toList == nm3) = false := by rw [hs]; decide
  have m4 : (s.toList == nm4) = true := by rw [hs]; decide
  have m5 : (s.toList == nm5) = false := by rw [hs]; decide
  have m6 : (s.toList == nm6) = false := by rw [hs]; decide
  have m7 : (s.toList == nm7) = false := by rw [hs]; decide
  have m8 : (s.toList == nm8) = false := by rw [hs]; decide
  have m9 : (s.toList == nm9) = false := by rw [hs]; decide
  have m10 : (s.toList == nm10) = false := by rw [hs]; decide
  have e0 : opE s.toList l n = (two 5 l).map (·.far (-n)) := by unfold opE; rw [m0, m1, m2, m3, m4]; rfl
  rw [e0]
  clear e0 hs
  have e1 : (two 5 l).map (·.far (-n)) = none := by unfold two; rw [if_neg h2]; rfl
  rw [e1]
  have n1 : ((l.length : Int) == 2) = false := by simp; omega
  obtain ⟨t, n2⟩ : ∃ t, ((l.length : Int) == 1) = t := ⟨_, rfl⟩
  clear h h2 e1
  generalize l.length = m at *
  go_enter Tryd.func17, Tryd.ntmps17
  go_wp2
  (try simp only [Exit.inBlock, Exit.then])
  have L := load_newR (w.alloc (.cells #[.int .i64 p, .string s, .slice ao m c] 26)) 0 0 0
  rw [show (w.alloc (.cells #[.int .i64 p, .string s, .slice ao m c] 26)).heap.size = w.heap.size + 1 by simp] at L
  refine bodyPost_ret (results_ctE rfl rfl L) rfl ?_
  exact ⟨⟨0, 0, 0⟩, rfl, fun q hq => (by cases hq), ((bel_new _ _ _).alloc (bel_new _ _ _).size _)⟩
set_option maxRecDepth 20000 in
set_option maxHeartbeats 2000000 in
theorem rop_5 (p : Int) (s : ByteArray) (ao : Option Addr) (c : Nat) (l : List Int) (n : Int) (w : World) (hs : s.toList = nm5) (h : Ia w ao l) (hl : l.length ≤ 140737488355328) (h2 : l.length = 1) :
    Calls Tryd.prog 17 #[.agg #[.int .i64 p, .string s, .slice ao l.length c], .int .i64 n] w (OE (opE s.toList l n) w) := by
  have m0 : (s.toList == nm0) = false := by rw [hs]; decide
  have m1 : (s.toList == nm1) = false := by rw [hs]; decide
  have m2 : (s.toList == nm2) = false := by rw [hs]; decide
  have m3 : (s.toList == nm3) = false := by rw [hs]; decide
  have m4 : (s.toList == nm4) = false := by rw [hs]; decide
  have m5 : (s.toList == nm5) = true := by rw [hs]; decide
  have m6 : (s.toList == nm6) = false := by rw [hs]; decide
  have m7 : (s.toList == nm7) = false := by rw [hs]; decide
  have m8 : (s.toList == nm8) = false := by rw [hs]; decide
  have m9 : (s.toList == nm9) = false := by rw [hs]; decide
  have m10 : (s.toList == nm10) = false := by rw [hs]; decide
  have e0 : opE s.toList l n = (one 3 l).map (·.far n) := by unfold opE; rw [m0, m1, m2, m3, m4, m5]; rfl
  rw [e0]
  clear e0 hs
  obtain ⟨x, rfl⟩ : ∃ x, l = [x] := by
    match l, h2 with
    | [x], _ => exact ⟨x, rfl⟩
  obtain ⟨b, off, rfl, hc⟩ : ∃ b off, ao = some ⟨b, off, none⟩ ∧ ∀ i, i < 1 → w.cell? ⟨b, off + i, none⟩ = some (.int .i64 ([x].getD i 0)) := by
    rcases h with h | h
    · cases h
    · exact h
  have x0 : w.cell? ⟨b, off, none⟩ = some (.int .i64 x) := hc 0 (by omega)
  show Calls Tryd.prog 17 #[.agg #[.int .i64 p, .string s, .slice (some ⟨b, off, none⟩) 1 c], .int .i64 n] w (OE (some ⟨3, 0, wrap64 (x + n)⟩) w)
  clear hc h h2 hl
  have HB0 : Below w.heap.size w (w.alloc (.cells #[.int .i64 p, .string s, .slice (some ⟨b, off, none⟩) 1 c] 26)) := bel_new _ _ _
  have HB1 : Below w.heap.size w ((w.alloc (.cells #[.int .i64 p, .string s, .slice (some ⟨b, off, none⟩) 1 c] 26)).alloc (.cells #[.int .i64 0, .int .i64 0, .int .i64 0] 52)) := HB0.alloc HB0.size _
  have y0 := up_belI x0 HB1
  have z0 := up_belI x0 HB1.drew
  have en : n + x = x + n := Int.add_comm _ _
  go_enter Tryd.func17, Tryd.ntmps17
  go_wp2
  (try simp only [Exit.inBlock, Exit.then])
  have L := load_newR (w.alloc (.cells #[.int .i64 p, .string s, .slice (some ⟨b, off, none⟩) 1 c] 26)) (3) (0) (wrap64 (x + n))
  rw [show (w.alloc (.cells #[.int .i64 p, .string s, .slice (some ⟨b, off, none⟩) 1 c] 26)).heap.size = w.heap.size + 1 by simp] at L
  refine bodyPost_ret (results_ctE rfl rfl L) rfl ?_
  exact ⟨⟨3, 0, wrap64 (x + n)⟩, rfl, fun q hq => (by cases hq; rfl), ((bel_new _ _ _).alloc (bel_new _ _ _).size _)⟩
set_option maxRecDepth 20000 in
set_option maxHeartbeats 2000000 in
theorem rop_5n (p : Int) (s : ByteArray) (ao : Option Addr) (c : Nat) (l : List Int) (n : Int) (w : World) (hs : s.toList = nm5) (h : Ia w ao l) (hl : l.length ≤ 140737488355328) (h2 : l.length ≠ 1) :
    Calls Tryd.prog 17 #[.agg #[.int .i64 p, .string s, .slice ao l.length c], .int .i64 n] w (OE (opE s.toList l n) w) := by
  have m0 : (s.toList == nm0) = false := by rw [hs]; decide
  have m1 : (s.toList == nm1) = false := by rw [hs]; decide
  have m2 : (s.toList == nm2) = false := by rw [hs]; decide
  have m3 : (s.toList == nm3) = false := by rw [hs]; decide
  have m4 : (s.toList == nm4) = false := by rw [hs]; decide
  have m5 : (s.toList == nm5) = true := by rw [hs]; decide
  have m6 : (s.toList == nm6) = false := by rw [hs]; decide
  have m7 : (s.toList == nm7) = false := by rw [hs]; decide
  have m8 : (s.toList == nm8) = false := by rw [hs]; decide
  have m9 : (s.toList == nm9) = false := by rw [hs]; decide
  have m10 : (s.toList == nm10) = false := by rw [hs]; decide
  have e0 : opE s.toList l n = (one 3 l).map (·.far n) := by unfold opE; rw [m0, m1, m2, m3, m4, m5]; rfl
  rw [e0]
  clear e0 hs
  have e1 : (one 3 l).map (·.far n) = none := by unfold one; rw [if_neg h2]; rfl
  rw [e1]
  have n1 : ((l.length : Int) == 1) = false := by simp; omega
  obtain ⟨t, n2⟩ : ∃ t, ((l.length : Int) == 2) = t := ⟨_, rfl⟩
  clear h h2 e1
  generalize l.length = m at *
  go_enter Tryd.func17, Tryd.ntmps17
  go_wp2
  (try simp only [Exit.inBlock, Exit.then])
  have L := load_newR (w.alloc (.cells #[.int .i64 p, .string s, .slice ao m c] 26)) 0 0 0
  rw [show (w.alloc (.cells #[.int .i64 p, .string s, .slice ao m c] 26)).heap.size = w.heap.size + 1 by simp] at L
  refine bodyPost_ret (results_ctE rfl rfl L) rfl ?_
  exact ⟨⟨0, 0, 0⟩, rfl, fun q hq => (by cases hq), ((bel_new _ _ _).alloc (bel_new _ _ _).size _)⟩
set_option maxRecDepth 20000 in
set_option maxHeartbeats 2000000 in
theorem rop_6 (p : Int) (s : ByteArray) (ao : Option Addr) (c : Nat) (l : List Int) (n : Int) (w : World) (hs : s.toList = nm6) (h : Ia w ao l) (hl : l.length ≤ 140737488355328) (h2 : l.length = 1) :
    Calls Tryd.prog 17 #[.agg #[.int .i64 p, .string s, .slice ao l.length c], .int .i64 n] w (OE (opE s.toList l n) w) := by
  have m0 : (s.toList == nm0) = false := by rw [hs]; decide
  have m1 : (s.toList == nm1) = false := by rw [hs]; decide
  have m2 : (s.toList == nm2) = false := by rw [hs]; decide
  have m3 : (s.toList == nm3) = false := by rw [hs]; decide
  have m4 : (s.toList == nm4) = false := by rw [hs]; decide
  have m5 : (s.toList == nm5) = false := by rw [hs]; decide
  have m6 : (s.toList == nm6) = true := by rw [hs]; decide
  have m7 : (s.toList == nm7) = false := by rw [hs]; decide
  have m8 : (s.toList == nm8) = false := by rw [hs]; decide
  have m9 : (s.toList == nm9) = false := by rw [hs]; decide
  have m10 : (s.toList == nm10) = false := by rw [hs]; decide
  have e0 : opE s.toList l n = reg 6 l := by unfold opE; rw [m0, m1, m2, m3, m4, m5, m6]; rfl
  rw [e0]
  clear e0 hs
  obtain ⟨x, rfl⟩ : ∃ x, l = [x] := by
    match l, h2 with
    | [x], _ => exact ⟨x, rfl⟩
  obtain ⟨b, off, rfl, hc⟩ : ∃ b off, ao = some ⟨b, off, none⟩ ∧ ∀ i, i < 1 → w.cell? ⟨b, off + i, none⟩ = some (.int .i64 ([x].getD i 0)) := by
    rcases h with h | h
    · cases h
    · exact h
  have x0 : w.cell? ⟨b, off, none⟩ = some (.int .i64 x) := hc 0 (by omega)
  show Calls Tryd.prog 17 #[.agg #[.int .i64 p, .string s, .slice (some ⟨b, off, none⟩) 1 c], .int .i64 n] w (OE (some ⟨6, x, 0⟩) w)
  clear hc h h2 hl
  have HB0 : Below w.heap.size w (w.alloc (.cells #[.int .i64 p, .string s, .slice (some ⟨b, off, none⟩) 1 c] 26)) := bel_new _ _ _
  have HB1 : Below w.heap.size w ((w.alloc (.cells #[.int .i64 p, .string s, .slice (some ⟨b, off, none⟩) 1 c] 26)).alloc (.cells #[.int .i64 0, .int .i64 0, .int .i64 0] 52)) := HB0.alloc HB0.size _
  have y0 := up_belI x0 HB1
  have z0 := up_belI x0 HB1.drew
  go_enter Tryd.func17, Tryd.ntmps17
  go_wp2
  (try simp only [Exit.inBlock, Exit.then])
  have L := load_newR (w.alloc (.cells #[.int .i64 p, .string s, .slice (some ⟨b, off, none⟩) 1 c] 26)) (6) (x) (0)
  rw [show (w.alloc (.cells #[.int .i64 p, .string s, .slice (some ⟨b, off, none⟩) 1 c] 26)).heap.size = w.heap.size + 1 by simp] at L
  refine bodyPost_ret (results_ctE rfl rfl L) rfl ?_
  exact ⟨⟨6, x, 0⟩, rfl, fun q hq => (by cases hq; rfl), ((bel_new _ _ _).alloc (bel_new _ _ _).size _)⟩
set_option maxRecDepth 20000 in
set_option maxHeartbeats 2000000 in
theorem rop_6n (p : Int) (s : ByteArray) (ao : Option Addr) (c : Nat) (l : List Int) (n : Int) (w : World) (hs : s.toList = nm6) (h : Ia w ao l) (hl : l.length ≤ 140737488355328) (h2 : l.length ≠ 1) :
    Calls Tryd.prog 17 #[.agg #[.int .i64 p, .string s, .slice ao l.length c], .int .i64 n] w (OE (opE s.toList l n) w) := by
  have m0 : (s.toList == nm0) = false := by rw [hs]; decide
  have m1 : (s.toList == nm1) = false := by rw [hs]; decide
  have m2 : (s.toList == nm2) = false := by rw [hs]; decide
  have m3 : (s.toList == nm3) = false := by rw [hs]; decide
  have m4 : (s.toList == nm4) = false := by rw [hs]; decide
  have m5 : (s.toList == nm5) = false := by rw [hs]; decide
  have m6 : (s.toList == nm6) = true := by rw [hs]; decide
  have m7 : (s.toList == nm7) = false := by rw [hs]; decide
  have m8 : (s.toList == nm8) = false := by rw [hs]; decide
  have m9 : (s.toList == nm9) = false := by rw [hs]; decide
  have m10 : (s.toList == nm10) = false := by rw [hs]; decide
  have e0 : opE s.toList l n = reg 6 l := by unfold opE; rw [m0, m1, m2, m3, m4, m5, m6]; rfl
  rw [e0]
  clear e0 hs
  have e1 : reg 6 l = none := by unfold reg; rw [if_neg h2]
  rw [e1]
  have n1 : ((l.length : Int) == 1) = false := by simp; omega
  obtain ⟨t, n2⟩ : ∃ t, ((l.length : Int) == 2) = t := ⟨_, rfl⟩
  clear h h2 e1
  generalize l.length = m at *
  go_enter Tryd.func17, Tryd.ntmps17
  go_wp2
  (try simp only [Exit.inBlock, Exit.then])
  have L := load_newR (w.alloc (.cells #[.int .i64 p, .string s, .slice ao m c] 26)) 0 0 0
  rw [show (w.alloc (.cells #[.int .i64 p, .string s, .slice ao m c] 26)).heap.size = w.heap.size + 1 by simp] at L
  refine bodyPost_ret (results_ctE rfl rfl L) rfl ?_
  exact ⟨⟨0, 0, 0⟩, rfl, fun q hq => (by cases hq), ((bel_new _ _ _).alloc (bel_new _ _ _).size _)⟩
set_option maxRecDepth 20000 in
set_option maxHeartbeats 2000000 in
theorem rop_7 (p : Int) (s : ByteArray) (ao : Option Addr) (c : Nat) (l : List Int) (n : Int) (w : World) (hs : s.toList = nm7) (h : Ia w ao l) (hl : l.length ≤ 140737488355328) (h2 : l.length = 1) :
    Calls Tryd.prog 17 #[.agg #[.int .i64 p, .string s, .slice ao l.length c], .int .i64 n] w (OE (opE s.toList l n) w) := by
  have m0 : (s.toList == nm0) = false := by rw [hs]; decide
  have m1 : (s.toList == nm1) = false := by rw [hs]; decide
  have m2 : (s.toList == nm2) = false := by rw [hs]; decide
  have m3 : (s.toList == nm3) = false := by rw [hs]; decide
  have m4 : (s.toList == nm4) = false := by rw [hs]; decide
  have m5 : (s.toList == nm5) = false := by rw [hs]; decide
  have m6 : (s.toList == nm6) = false := by rw [hs]; decide
  have m7 : (s.toList == nm7) = true := by rw [hs]; decide
  have m8 : (s.toList == nm8) = false := by rw [hs]; decide
  have m9 : (s.toList == nm9) = false := by rw [hs]; decide
  have m10 : (s.toList == nm10) = false := by rw [hs]; decide
  have e0 : opE s.toList l n = reg 7 l := by unfold opE; rw [m0, m1, m2, m3, m4, m5, m6, m7]; rfl
  rw [e0]
  clear e0 hs
  obtain ⟨x, rfl⟩ : ∃ x, l = [x] := by
    match l, h2 with
    | [x], _ => exact ⟨x, rfl⟩
  obtain ⟨b, off, rfl, hc⟩ : ∃ b off, ao = some ⟨b, off, none⟩ ∧ ∀ i, i < 1 → w.cell? ⟨b, off + i, none⟩ = some (.int .i64 ([x].getD i 0)) := by
    rcases h with h | h
    · cases h
    · exact h
  have x0 : w.cell? ⟨b, off, none⟩ = some (.int .i64 x) := hc 0 (by omega)
  show Calls Tryd.prog 17 #[.agg #[.int .i64 p, .string s, .slice (some ⟨b, off, none⟩) 1 c], .int .i64 n] w (OE (some ⟨7, x, 0⟩) w)
  clear hc h h2 hl
  have HB0 : Below w.heap.size w (w.alloc (.cells #[.int .i64 p, .string s, .slice (some ⟨b, off, none⟩) 1 c] 26)) := bel_new _ _ _
  have HB1 : Below w.heap.size w ((w.alloc (.cells #[.int .i64 p, .string s, .slice (some ⟨b, off, none⟩) 1 c] 26)).alloc (.cells #[.int .i64 0, .int .i64 0, .int .i64 0] 52)) := HB0.alloc HB0.size _
  have y0 := up_belI x0 HB1
  have z0 := up_belI x0 HB1.drew
  go_enter Tryd.func17, Tryd.ntmps17
  go_wp2
  (try simp only [Exit.inBlock, Exit.then])
  have L := load_newR (w.alloc (.cells #[.int .i64 p, .string s, .slice (some ⟨b, off, none⟩) 1 c] 26)) (7) (x) (0)
  rw [show (w.alloc (.cells #[.int .i64 p, .string s, .slice (some ⟨b, off, none⟩) 1 c] 26)).heap.size = w.heap.size + 1 by simp] at L
  refine bodyPost_ret (results_ctE rfl rfl L) rfl ?_
  exact ⟨⟨7, x, 0⟩, rfl, fun q hq => (by cases hq; rfl), ((bel_new _ _ _).alloc (bel_new _ _ _).size _)⟩
set_option maxRecDepth 20000 in
set_option maxHeartbeats 2000000 in
theorem rop_7n (p : Int) (s : ByteArray) (ao : Option Addr) (c : Nat) (l : List Int) (n : Int) (w : World) (hs : s.toList = nm7) (h : Ia w ao l) (hl : l.length ≤ 140737488355328) (h2 : l.length ≠ 1) :
    Calls Tryd.prog 17 #[.agg #[.int .i64 p, .string s, .slice ao l.length c], .int .i64 n] w (OE (opE s.toList l n) w) := by
  have m0 : (s.toList == nm0) = false := by rw [hs]; decide
  have m1 : (s.toList == nm1) = false := by rw [hs]; decide
  have m2 : (s.toList == nm2) = false := by rw [hs]; decide
  have m3 : (s.toList == nm3) = false := by rw [hs]; decide
  have m4 : (s.toList == nm4) = false := by rw [hs]; decide
  have m5 : (s.toList == nm5) = false := by rw [hs]; decide
  have m6 : (s.toList == nm6) = false := by rw [hs]; decide
  have m7 : (s.toList == nm7) = true := by rw [hs]; decide
  have m8 : (s.toList == nm8) = false := by rw [hs]; decide
  have m9 : (s.toList == nm9) = false := by rw [hs]; decide
  have m10 : (s.toList == nm10) = false := by rw [hs]; decide
  have e0 : opE s.toList l n = reg 7 l := by unfold opE; rw [m0, m1, m2, m3, m4, m5, m6, m7]; rfl
  rw [e0]
  clear e0 hs
  have e1 : reg 7 l = none := by unfold reg; rw [if_neg h2]
  rw [e1]
  have n1 : ((l.length : Int) == 1) = false := by simp; omega
  obtain ⟨t, n2⟩ : ∃ t, ((l.length : Int) == 2) = t := ⟨_, rfl⟩
  clear h h2 e1
  generalize l.length = m at *
  go_enter Tryd.func17, Tryd.ntmps17
  go_wp2
  (try simp only [Exit.inBlock, Exit.then])
  have L := load_newR (w.alloc (.cells #[.int .i64 p, .string s, .slice ao m c] 26)) 0 0 0
  rw [show (w.alloc (.cells #[.int .i64 p, .string s, .slice ao m c] 26)).heap.size = w.heap.size + 1 by simp] at L
  refine bodyPost_ret (results_ctE rfl rfl L) rfl ?_
  exact ⟨⟨0, 0, 0⟩, rfl, fun q hq => (by cases hq), ((bel_new _ _ _).alloc (bel_new _ _ _).size _)⟩
set_option maxRecDepth 20000 in
set_option maxHeartbeats 2000000 in
theorem rop_8 (p : Int) (s : ByteArray) (ao : Option Addr) (c : Nat) (l : List Int) (n : Int) (w : World) (hs : s.toList = nm8) (h : Ia w ao l) (hl : l.length ≤ 140737488355328) (h2 : l.length = 1) :
    Calls Tryd.prog 17 #[.agg #[.int .i64 p, .string s, .slice ao l.length c], .int .i64 n] w (OE (opE s.toList l n) w) := by
  have m0 : (s.toList == nm0) = false := by rw [hs]; decide
  have m1 : (s.toList == nm1) = false := by rw [hs]; decide
  have m2 : (s.toList == nm2) = false := by rw [hs]; decide
  have m3 : (s.toList == nm3) = false := by rw [hs]; decide
  have m4 : (s.toList == nm4) = false := by rw [hs]; decide
  have m5 : (s.toList == nm5) = false := by rw [hs]; decide
  have m6 : (s.toList == nm6) = false := by rw [hs]; decide
  have m7 : (s.toList == nm7) = false := by rw [hs]; decide
  have m8 : (s.toList == nm8) = true := by rw [hs]; decide
  have m9 : (s.toList == nm9) = false := by rw [hs]; decide
  have m10 : (s.toList == nm10) = false := by rw [hs]; decide
  have e0 : opE s.toList l n = reg 8 l := by unfold opE; rw [m0, m1, m2, m3, m4, m5, m6, m7, m8]; rfl
  rw [e0]
  clear e0 hs
  obtain ⟨x, rfl⟩ : ∃ x, l = [x] := by
    match l, h2 with
    | [x], _ => exact ⟨x, rfl⟩
  obtain ⟨b, off, rfl, hc⟩ : ∃ b off, ao = some ⟨b, off, none⟩ ∧ ∀ i, i < 1 → w.cell? ⟨b, off + i, none⟩ = some (.int .i64 ([x].getD i 0)) := by
    rcases h with h | h
    · cases h
    · exact h
  have x0 : w.cell? ⟨b, off, none⟩ = some (.int .i64 x) := hc 0 (by omega)
  show Calls Tryd.prog 17 #[.agg #[.int .i64 p, .string s, .slice (some ⟨b, off, none⟩) 1 c], .int .i64 n] w (OE (some ⟨8, x, 0⟩) w)
  clear hc h h2 hl
  have HB0 : Below w.heap.size w (w.alloc (.cells #[.int .i64 p, .string s, .slice (some ⟨b, off, none⟩) 1 c] 26)) := bel_new _ _ _
  have HB1 : Below w.heap.size w ((w.alloc (.cells #[.int .i64 p, .string s, .slice (some ⟨b, off, none⟩) 1 c] 26)).alloc (.cells #[.int .i64 0, .int .i64 0, .int .i64 0] 52)) := HB0.alloc HB0.size _
  have y0 := up_belI x0 HB1
  have z0 := up_belI x0 HB1.drew
  go_enter Tryd.func17, Tryd.ntmps17
  go_wp2
  (try simp only [Exit.inBlock, Exit.then])
  have L := load_newR (w.alloc (.cells #[.int .i64 p, .string s, .slice (some ⟨b, off, none⟩) 1 c] 26)) (8) (x) (0)
  rw [show (w.alloc (.cells #[.int .i64 p, .string s, .slice (some ⟨b, off, none⟩) 1 c] 26)).heap.size = w.heap.size + 1 by simp] at L
  refine bodyPost_ret (results_ctE rfl rfl L) rfl ?_
  exact ⟨⟨8, x, 0⟩, rfl, fun q hq => (by cases hq; rfl), ((bel_new _ _ _).alloc (bel_new _ _ _).size _)⟩
set_option maxRecDepth 20000 in
set_option maxHeartbeats 2000000 in
theorem rop_8n (p : Int) (s : ByteArray) (ao : Option Addr) (c : Nat) (l : List Int) (n : Int) (w : World) (hs : s.toList = nm8) (h : Ia w ao l) (hl : l.length ≤ 140737488355328) (h2 : l.length ≠ 1) :
    Calls Tryd.prog 17 #[.agg #[.int .i64 p, .string s, .slice ao l.length c], .int .i64 n] w (OE (opE s.toList l n) w) := by
  have m0 : (s.toList == nm0) = false := by rw [hs]; decide
  have m1 : (s.toList == nm1) = false := by rw [hs]; decide
  have m2 : (s.toList == nm2) = false := by rw [hs]; decide
  have m3 : (s.toList == nm3) = false := by rw [hs]; decide
  have m4 : (s.toList == nm4) = false := by rw [hs]; decide
  have m5 : (s.toList == nm5) = false := by rw [hs]; decide
  have m6 : (s.toList == nm6) = false := by rw [hs]; decide
  have m7 : (s.toList == nm7) = false := by rw [hs]; decide
  have m8 : (s.toList == nm8) = true := by rw [hs]; decide
  have m9 : (s.toList == nm9) = false := by rw [hs]; decide
  have m10 : (s.toList == nm10) = false := by rw [hs]; decide
  have e0 : opE s.toList l n = reg 8 l := by unfold opE; rw [m0, m1, m2, m3, m4, m5, m6, m7, m8]; rfl
  rw [e0]
  clear e0 hs
  have e1 : reg 8 l = none := by unfold reg; rw [if_neg h2]
  rw [e1]
  have n1 : ((l.length : Int) == 1) = false := by simp; omega
  obtain ⟨t, n2⟩ : ∃ t, ((l.length : Int) == 2) = t := ⟨_, rfl⟩
  clear h h2 e1
  generalize l.length = m at *
  go_enter Tryd.func17, Tryd.ntmps17
  go_wp2
  (try simp only [Exit.inBlock, Exit.then])
  have L := load_newR (w.alloc (.cells #[.int .i64 p, .string s, .slice ao m c] 26)) 0 0 0
  rw [show (w.alloc (.cells #[.int .i64 p, .string s, .slice ao m c] 26)).heap.size = w.heap.size + 1 by simp] at L
  refine bodyPost_ret (results_ctE rfl rfl L) rfl ?_
  exact ⟨⟨0, 0, 0⟩, rfl, fun q hq => (by cases hq), ((bel_new _ _ _).alloc (bel_new _ _ _).size _)⟩
set_option maxRecDepth 20000 in
set_option maxHeartbeats 2000000 in
theorem rop_9 (p : Int) (s : ByteArray) (ao : Option Addr) (c : Nat) (l : List Int) (n : Int) (w : World) (hs : s.toList = nm9) (h : Ia w ao l) (hl : l.length ≤ 140737488355328) :
    Calls Tryd.prog 17 #[.agg #[.int .i64 p, .string s, .slice ao l.length c], .int .i64 n] w (OE (opE s.toList l n) w) := by
  have m0 : (s.toList == nm0) = false := by rw [hs]; decide
  have m1 : (s.toList == nm1) = false := by rw [hs]; decide
  have m2 : (s.toList == nm2) = false := by rw [hs]; decide
  have m3 : (s.toList == nm3) = false := by rw [hs]; decide
  have m4 : (s.toList == nm4) = false := by rw [hs]; decide
  have m5 : (s.toList == nm5) = false := by rw [hs]; decide
  have m6 : (s.toList == nm6) = false := by rw [hs]; decide
  have m7 : (s.toList == nm7) = false := by rw [hs]; decide
  have m8 : (s.toList == nm8) = false := by rw [hs]; decide
  have m9 : (s.toList == nm9) = true := by rw [hs]; decide
  have m10 : (s.toList == nm10) = false := by rw [hs]; decide
  have e0 : opE s.toList l n = non 9 l := by unfold opE; rw [m0, m1, m2, m3, m4, m5, m6, m7, m8, m9]; rfl
  rw [e0]
  clear e0 hs
  obtain ⟨B, hB⟩ : ∃ B, ((l.length : Int) == 0) = B := ⟨_, rfl⟩
  have eB : (non 9 l).isSome = B := by
    rw [← hB]
    unfold non
    by_cases h0 : l.length = 0
    · rw [if_pos h0, h0]; rfl
    · rw [if_neg h0]; simp [h0]
  have eN : ∀ x, non 9 l = some x → (⟨9, 0, 0⟩ : Oq) = x := fun x hx => by
    unfold non at hx
    by_cases h0 : l.length = 0
    · rw [if_pos h0] at hx; simpa using hx
    · rw [if_neg h0] at hx; cases hx
  obtain ⟨t2, n2⟩ : ∃ t, ((l.length : Int) == 2) = t := ⟨_, rfl⟩
  obtain ⟨t1, n1⟩ : ∃ t, ((l.length : Int) == 1) = t := ⟨_, rfl⟩
  generalize non 9 l = O at *
  generalize l.length = m at *
  clear h
  go_enter Tryd.func17, Tryd.ntmps17
  go_wp2
  (try simp only [Exit.inBlock, Exit.then])
  have L := load_newR (w.alloc (.cells #[.int .i64 p, .string s, .slice ao m c] 26)) 9 0 0
  rw [show (w.alloc (.cells #[.int .i64 p, .string s, .slice ao m c] 26)).heap.size = w.heap.size + 1 by simp] at L
  refine bodyPost_ret (results_ctE rfl rfl L) rfl ?_
  exact ⟨⟨9, 0, 0⟩, by rw [eB]; rfl, eN, ((bel_new _ _ _).alloc (bel_new _ _ _).size _)⟩
set_option maxRecDepth 20000 in
set_option maxHeartbeats 2000000 in
theorem rop_10 (p : Int) (s : ByteArray) (ao : Option Addr) (c : Nat) (l : List Int) (n : Int) (w : World) (hs : s.toList = nm10) (h : Ia w ao l) (hl : l.length ≤ 140737488355328) :
    Calls Tryd.prog 17 #[.agg #[.int .i64 p, .string s, .slice ao l.length c], .int .i64 n] w (OE (opE s.toList l n) w) := by
  have m0 : (s.toList == nm0) = false := by rw [hs]; decide
  have m1 : (s.toList == nm1) = false := by rw [hs]; decide
  have m2 : (s.toList == nm2) = false := by rw [hs]; decide
  have m3 : (s.toList == nm3) = false := by rw [hs]; decide
  have m4 : (s.toList == nm4) = false := by rw [hs]; decide
  have m5 : (s.toList == nm5) = false := by rw [hs]; decide
  have m6 : (s.toList == nm6) = false := by rw [hs]; decide
  have m7 : (s.toList == nm7) = false := by rw [hs]; decide
  have m8 : (s.toList == nm8) = false := by rw [hs]; decide
  have m9 : (s.toList == nm9) = false := by rw [hs]; decide
  have m10 : (s.toList == nm10) = true := by rw [hs]; decide
  have e0 : opE s.toList l n = non 10 l := by unfold opE; rw [m0, m1, m2, m3, m4, m5, m6, m7, m8, m9, m10]; rfl
  rw [e0]
  clear e0 hs
  obtain ⟨B, hB⟩ : ∃ B, ((l.length : Int) == 0) = B := ⟨_, rfl⟩
  have eB : (non 10 l).isSome = B := by
    rw [← hB]
    unfold non
    by_cases h0 : l.length = 0
    · rw [if_pos h0, h0]; rfl
    · rw [if_neg h0]; simp [h0]
  have eN : ∀ x, non 10 l = some x → (⟨10, 0, 0⟩ : Oq) = x := fun x hx => by
    unfold non at hx
    by_cases h0 : l.length = 0
    · rw [if_pos h0] at hx; simpa using hx
    · rw [if_neg h0] at hx; cases hx
  obtain ⟨t2, n2⟩ : ∃ t, ((l.length : Int) == 2) = t := ⟨_, rfl⟩
  obtain ⟨t1, n1⟩ : ∃ t, ((l.length : Int) == 1) = t := ⟨_, rfl⟩
  generalize non 10 l = O at *
  generalize l.length = m at *
  clear h
  go_enter Tryd.func17, Tryd.ntmps17
  go_wp2
  (try simp only [Exit.inBlock, Exit.then])
  have L := load_newR (w.alloc (.cells #[.int .i64 p, .string s, .slice ao m c] 26)) 10 0 0
  rw [show (w.alloc (.cells #[.int .i64 p, .string s, .slice ao m c] 26)).heap.size = w.heap.size + 1 by simp] at L
  refine bodyPost_ret (results_ctE rfl rfl L) rfl ?_
  exact ⟨⟨10, 0, 0⟩, by rw [eB]; rfl, eN, ((bel_new _ _ _).alloc (bel_new _ _ _).size _)⟩
set_option maxRecDepth 20000 in
set_option maxHeartbeats 2000000 in
theorem rop_11 (p : Int) (s : ByteArray) (ao : Option Addr) (c : Nat) (l : List Int) (n : Int) (w : World) (hs : (s.toList == nm0) = false ∧ (s.toList == nm1) = false ∧ (s.toList == nm2) = false ∧ (s.toList == nm3) = false ∧ (s.toList == nm4) = false ∧ (s.toList == nm5) = false ∧ (s.toList == nm6) = false ∧ (s.toList == nm7) = false ∧ (s.toList == nm8) = false ∧ (s.toList == nm9) = false ∧ (s.toList == nm10) = false) (h : Ia w ao l) (hl : l.length ≤ 140737488355328) :
    Calls Tryd.prog 17 #[.agg #[.int .i64 p, .string s, .slice ao l.length c], .int .i64 n] w (OE (opE s.toList l n) w) := by
  rw [opE_none hs]
  obtain ⟨m0, m1, m2, m3, m4, m5, m6, m7, m8, m9, m10⟩ := hs
  obtain ⟨t2, n2⟩ : ∃ t, ((l.length : Int) == 2) = t := ⟨_, rfl⟩
  obtain ⟨t1, n1⟩ : ∃ t, ((l.length : Int) == 1) = t := ⟨_, rfl⟩
  generalize l.length = m at *
  clear h
  go_enter Tryd.func17, Tryd.ntmps17
  go_wp2
  (try simp only [Exit.inBlock, Exit.then])
  have L := load_newR (w.alloc (.cells #[.int .i64 p, .string s, .slice ao m c] 26)) 0 0 0
  rw [show (w.alloc (.cells #[.int .i64 p, .string s, .slice ao m c] 26)).heap.size = w.heap.size + 1 by simp] at L
  refine bodyPost_ret (results_ctE rfl rfl L) rfl ?_
  exact ⟨⟨0, 0, 0⟩, rfl, fun x hx => (by cases hx), ((bel_new _ _ _).alloc (bel_new _ _ _).size _)⟩
theorem rop_any (p : Int) (s : ByteArray) (ao : Option Addr) (c : Nat) (l : List Int) (n : Int) (w : World) (h : Ia w ao l) (hl : l.length ≤ 140737488355328) :
    Calls Tryd.prog 17 #[.agg #[.int .i64 p, .string s, .slice ao l.length c], .int .i64 n] w (OE (opE s.toList l n) w) := by
  rcases nm_some s.toList with e | e | e | e | e | e | e | e | e | e | e | e
  · by_cases h2 : l.length = 2
    · exact rop_0 p s ao c l n w e h hl h2
    · exact rop_0n p s ao c l n w e h hl h2
  · by_cases h2 : l.length = 1
    · exact rop_1 p s ao c l n w e h hl h2
    · exact rop_1n p s ao c l n w e h hl h2
  · by_cases h2 : l.length = 1
    · exact rop_2 p s ao c l n w e h hl h2
    · exact rop_2n p s ao c l n w e h hl h2
  · by_cases h2 : l.length = 2
    · exact rop_3 p s ao c l n w e h hl h2
    · exact rop_3n p s ao c l n w e h hl h2
  · by_cases h2 : l.length = 2
    · exact rop_4 p s ao c l n w e h hl h2
    · exact rop_4n p s ao c l n w e h hl h2
  · by_cases h2 : l.length = 1
    · exact rop_5 p s ao c l n w e h hl h2
    · exact rop_5n p s ao c l n w e h hl h2
  · by_cases h2 : l.length = 1
    · exact rop_6 p s ao c l n w e h hl h2
    · exact rop_6n p s ao c l n w e h hl h2
  · by_cases h2 : l.length = 1
    · exact rop_7 p s ao c l n w e h hl h2
    · exact rop_7n p s ao c l n w e h hl h2
  · by_cases h2 : l.length = 1
    · exact rop_8 p s ao c l n w e h hl h2
    · exact rop_8n p s ao c l n w e h hl h2
  · exact rop_9 p s ao c l n w e h hl
  · exact rop_10 p s ao c l n w e h hl
  · exact rop_11 p s ao c l n w e h hl
end Go.Proofs.YtpbnldfekadalaaDoor

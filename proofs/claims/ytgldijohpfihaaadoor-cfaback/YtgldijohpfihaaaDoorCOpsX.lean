/- The document's reader of a frame's program: ops, by their first bytes. The document's reader of a frame's program: ops, with more than one number. -/
import Derived.Test.YtgldijohpfihaaaDoorCOp
namespace Go.Proofs.YtgldijohpfihaaaDoor
open Go.ChangeShapes Go.WideShapes Go.ChangeAt Go.RowKit
set_option linter.unusedVariables false
set_option linter.unusedSimpArgs false


set_option maxHeartbeats 2000000 in
set_option maxRecDepth 10000 in
theorem op_hi (rb : Nat) (ao : Option Addr) (len cap t : Nat) (bs : Nat → Int) (c : Int) (w : World) (hd : RD w rb (.slice ao len cap) (t : Int) true) (hr : Row w ao len bs) (hna : 0 < len → ∀ b off, ao = some ⟨b, off, none⟩ → b ≠ rb) (hbs : ∀ i, 0 ≤ bs i ∧ bs i < 256) (hl : len ≤ 1048576) (ht : t ≤ len) (h1 : 192 ≤ c) (h2 : c < 256) :
    Calls Tryd.prog 40 #[.pointer (some ⟨rb, 0, none⟩), .int .i64 c] w fun e w' => RO (some (⟨6, c - 192, 0⟩, t)) w w' rb (.slice ao len cap) e := by
  have HP0 : Hid _ := ⟨rp_start hd hr hna⟩
  have HB : Hid ((∀ i, 0 ≤ bs i ∧ bs i < 256) ∧ len ≤ 1048576 ∧ t ≤ len) := ⟨hbs, hl, ht⟩
  clear hd hr hna hbs hl ht
  have tk : True := trivial
  go_enter Tryd.func40, Tryd.ntmps40
  go_upto_region 1 with (fail)
  obtain ⟨g, hg⟩ : ∃ g, w.heap.size = g := ⟨_, rfl⟩
  generalize w.alloc (.cells #[.int .i64 0, .int .i64 0, .int .i64 0] 74) = W at *
  rw [hg] at HP0 ⊢
  clear hg
  obtain ⟨⟨a0, q0⟩, ⟨a1, q1⟩, ⟨a2, q2⟩, z0, z1, z2⟩ := HP0.out.there
  go_wp2
  have P9 := HP0.out.put (.int .i64 (6)) (.int .i64 (c - 192)) (.int .i64 (0))
  refine bodyPost_ret (res_op Tryd.results40 _ _ g _ _ _ rfl P9.2.2.1 P9.2.2.2.1 P9.2.2.2.2) rfl ?_
  exact ⟨rfl, P9.1, P9.2.1⟩

set_option maxHeartbeats 2000000 in
set_option maxRecDepth 10000 in
theorem op_6s (rb : Nat) (ao : Option Addr) (len cap t : Nat) (bs : Nat → Int) (n : Int) (e1 : Nat) (w : World) (hd : RD w rb (.slice ao len cap) (t : Int) true) (hr : Row w ao len bs) (hna : 0 < len → ∀ b off, ao = some ⟨b, off, none⟩ → b ≠ rb) (hbs : ∀ i, 0 ≤ bs i ∧ bs i < 256) (hl : len ≤ 1048576) (ht : t ≤ len) (hu : uN len bs t = some (n, e1)) :
    Calls Tryd.prog 40 #[.pointer (some ⟨rb, 0, none⟩), .int .i64 6] w fun e w' => RO (some (⟨6, n, 0⟩, e1)) w w' rb (.slice ao len cap) e := by
  have HP0 : Hid _ := ⟨rp_start hd hr hna⟩
  have HB : Hid ((∀ i, 0 ≤ bs i ∧ bs i < 256) ∧ len ≤ 1048576 ∧ t ≤ len) := ⟨hbs, hl, ht⟩
  clear hd hr hna hbs hl ht
  have tk : True := trivial
  go_enter Tryd.func40, Tryd.ntmps40
  go_upto_region 1 with (fail)
  obtain ⟨g, hg⟩ : ∃ g, w.heap.size = g := ⟨_, rfl⟩
  generalize w.alloc (.cells #[.int .i64 0, .int .i64 0, .int .i64 0] 74) = W at *
  rw [hg] at HP0 ⊢
  clear hg
  obtain ⟨⟨a0, q0⟩, ⟨a1, q1⟩, ⟨a2, q2⟩, z0, z1, z2⟩ := HP0.out.there
  go_wp2_with (go_at_call 58; (with_reducible refine (uleb_rd rb ao len cap t bs _ HP0.out.rd HP0.out.row HB.out.1 (by have := HB.out.2.1; omega)).mono ?_); intro e w1 he; rw [hu] at he; (have he' : e = _ := he.1); subst he'; have HP1 : Hid _ := ⟨HP0.out.go he.2.1 he.2.2⟩; have o1 := HP1.out.rd.c2; clear he; obtain ⟨⟨a0, q0⟩, ⟨a1, q1⟩, ⟨a2, q2⟩, z0, z1, z2⟩ := HP1.out.there)
  have P9 := HP1.out.put (.int .i64 (6)) (.int .i64 (n)) (.int .i64 (0))
  refine bodyPost_ret (res_op Tryd.results40 _ _ g _ _ _ rfl P9.2.2.1 P9.2.2.2.1 P9.2.2.2.2) rfl ?_
  exact ⟨rfl, P9.1, P9.2.1⟩

set_option maxHeartbeats 2000000 in
set_option maxRecDepth 10000 in
theorem op_6n (rb : Nat) (ao : Option Addr) (len cap t : Nat) (bs : Nat → Int) (w : World) (hd : RD w rb (.slice ao len cap) (t : Int) true) (hr : Row w ao len bs) (hna : 0 < len → ∀ b off, ao = some ⟨b, off, none⟩ → b ≠ rb) (hbs : ∀ i, 0 ≤ bs i ∧ bs i < 256) (hl : len ≤ 1048576) (ht : t ≤ len) (hu : uN len bs t = none) :
    Calls Tryd.prog 40 #[.pointer (some ⟨rb, 0, none⟩), .int .i64 6] w fun e w' => RO (none) w w' rb (.slice ao len cap) e := by
  have HP0 : Hid _ := ⟨rp_start hd hr hna⟩
  have HB : Hid ((∀ i, 0 ≤ bs i ∧ bs i < 256) ∧ len ≤ 1048576 ∧ t ≤ len) := ⟨hbs, hl, ht⟩
  clear hd hr hna hbs hl ht
  have tk : True := trivial
  go_enter Tryd.func40, Tryd.ntmps40
  go_upto_region 1 with (fail)
  obtain ⟨g, hg⟩ : ∃ g, w.heap.size = g := ⟨_, rfl⟩
  generalize w.alloc (.cells #[.int .i64 0, .int .i64 0, .int .i64 0] 74) = W at *
  rw [hg] at HP0 ⊢
  clear hg
  obtain ⟨⟨a0, q0⟩, ⟨a1, q1⟩, ⟨a2, q2⟩, z0, z1, z2⟩ := HP0.out.there
  go_wp2_with (go_at_call 58; (with_reducible refine (uleb_rd rb ao len cap t bs _ HP0.out.rd HP0.out.row HB.out.1 (by have := HB.out.2.1; omega)).mono ?_); intro e w1 he; rw [hu] at he; (obtain ⟨n, e1, he1, he2, he3⟩ := he); subst he1; have HP1 : Hid _ := ⟨HP0.out.go he2 he3⟩; have o1 := HP1.out.rd.c2; obtain ⟨⟨a0, q0⟩, ⟨a1, q1⟩, ⟨a2, q2⟩, z0, z1, z2⟩ := HP1.out.there)
  have P9 := HP1.out.put (.int .i64 (6)) (.int .i64 (n)) (.int .i64 (0))
  refine bodyPost_ret (res_op Tryd.results40 _ _ g _ _ _ rfl P9.2.2.1 P9.2.2.2.1 P9.2.2.2.2) rfl ?_
  exact ⟨⟨6, n, 0⟩, _, rfl, P9.1, P9.2.1⟩

set_option maxHeartbeats 2000000 in
set_option maxRecDepth 10000 in
theorem op_7s (rb : Nat) (ao : Option Addr) (len cap t : Nat) (bs : Nat → Int) (n : Int) (e1 : Nat) (w : World) (hd : RD w rb (.slice ao len cap) (t : Int) true) (hr : Row w ao len bs) (hna : 0 < len → ∀ b off, ao = some ⟨b, off, none⟩ → b ≠ rb) (hbs : ∀ i, 0 ≤ bs i ∧ bs i < 256) (hl : len ≤ 1048576) (ht : t ≤ len) (hu : uN len bs t = some (n, e1)) :
    Calls Tryd.prog 40 #[.pointer (some ⟨rb, 0, none⟩), .int .i64 7] w fun e w' => RO (some (⟨7, n, 0⟩, e1)) w w' rb (.slice ao len cap) e := by
  have HP0 : Hid _ := ⟨rp_start hd hr hna⟩
  have HB : Hid ((∀ i, 0 ≤ bs i ∧ bs i < 256) ∧ len ≤ 1048576 ∧ t ≤ len) := ⟨hbs, hl, ht⟩
  clear hd hr hna hbs hl ht
  have tk : True := trivial
  go_enter Tryd.func40, Tryd.ntmps40
  go_upto_region 1 with (fail)
  obtain ⟨g, hg⟩ : ∃ g, w.heap.size = g := ⟨_, rfl⟩
  generalize w.alloc (.cells #[.int .i64 0, .int .i64 0, .int .i64 0] 74) = W at *
  rw [hg] at HP0 ⊢
  clear hg
  obtain ⟨⟨a0, q0⟩, ⟨a1, q1⟩, ⟨a2, q2⟩, z0, z1, z2⟩ := HP0.out.there
  go_wp2_with (go_at_call 58; (with_reducible refine (uleb_rd rb ao len cap t bs _ HP0.out.rd HP0.out.row HB.out.1 (by have := HB.out.2.1; omega)).mono ?_); intro e w1 he; rw [hu] at he; (have he' : e = _ := he.1); subst he'; have HP1 : Hid _ := ⟨HP0.out.go he.2.1 he.2.2⟩; have o1 := HP1.out.rd.c2; clear he; obtain ⟨⟨a0, q0⟩, ⟨a1, q1⟩, ⟨a2, q2⟩, z0, z1, z2⟩ := HP1.out.there)
  have P9 := HP1.out.put (.int .i64 (7)) (.int .i64 (n)) (.int .i64 (0))
  refine bodyPost_ret (res_op Tryd.results40 _ _ g _ _ _ rfl P9.2.2.1 P9.2.2.2.1 P9.2.2.2.2) rfl ?_
  exact ⟨rfl, P9.1, P9.2.1⟩

set_option maxHeartbeats 2000000 in
set_option maxRecDepth 10000 in
theorem op_7n (rb : Nat) (ao : Option Addr) (len cap t : Nat) (bs : Nat → Int) (w : World) (hd : RD w rb (.slice ao len cap) (t : Int) true) (hr : Row w ao len bs) (hna : 0 < len → ∀ b off, ao = some ⟨b, off, none⟩ → b ≠ rb) (hbs : ∀ i, 0 ≤ bs i ∧ bs i < 256) (hl : len ≤ 1048576) (ht : t ≤ len) (hu : uN len bs t = none) :
    Calls Tryd.prog 40 #[.pointer (some ⟨rb, 0, none⟩), .int .i64 7] w fun e w' => RO (none) w w' rb (.slice ao len cap) e := by
  have HP0 : Hid _ := ⟨rp_start hd hr hna⟩
  have HB : Hid ((∀ i, 0 ≤ bs i ∧ bs i < 256) ∧ len ≤ 1048576 ∧ t ≤ len) := ⟨hbs, hl, ht⟩
  clear hd hr hna hbs hl ht
  have tk : True := trivial
  go_enter Tryd.func40, Tryd.ntmps40
  go_upto_region 1 with (fail)
  obtain ⟨g, hg⟩ : ∃ g, w.heap.size = g := ⟨_, rfl⟩
  generalize w.alloc (.cells #[.int .i64 0, .int .i64 0, .int .i64 0] 74) = W at *
  rw [hg] at HP0 ⊢
  clear hg
  obtain ⟨⟨a0, q0⟩, ⟨a1, q1⟩, ⟨a2, q2⟩, z0, z1, z2⟩ := HP0.out.there
  go_wp2_with (go_at_call 58; (with_reducible refine (uleb_rd rb ao len cap t bs _ HP0.out.rd HP0.out.row HB.out.1 (by have := HB.out.2.1; omega)).mono ?_); intro e w1 he; rw [hu] at he; (obtain ⟨n, e1, he1, he2, he3⟩ := he); subst he1; have HP1 : Hid _ := ⟨HP0.out.go he2 he3⟩; have o1 := HP1.out.rd.c2; obtain ⟨⟨a0, q0⟩, ⟨a1, q1⟩, ⟨a2, q2⟩, z0, z1, z2⟩ := HP1.out.there)
  have P9 := HP1.out.put (.int .i64 (7)) (.int .i64 (n)) (.int .i64 (0))
  refine bodyPost_ret (res_op Tryd.results40 _ _ g _ _ _ rfl P9.2.2.1 P9.2.2.2.1 P9.2.2.2.2) rfl ?_
  exact ⟨⟨7, n, 0⟩, _, rfl, P9.1, P9.2.1⟩

set_option maxHeartbeats 2000000 in
set_option maxRecDepth 10000 in
theorem op_8s (rb : Nat) (ao : Option Addr) (len cap t : Nat) (bs : Nat → Int) (n : Int) (e1 : Nat) (w : World) (hd : RD w rb (.slice ao len cap) (t : Int) true) (hr : Row w ao len bs) (hna : 0 < len → ∀ b off, ao = some ⟨b, off, none⟩ → b ≠ rb) (hbs : ∀ i, 0 ≤ bs i ∧ bs i < 256) (hl : len ≤ 1048576) (ht : t ≤ len) (hu : uN len bs t = some (n, e1)) :
    Calls Tryd.prog 40 #[.pointer (some ⟨rb, 0, none⟩), .int .i64 8] w fun e w' => RO (some (⟨8, n, 0⟩, e1)) w w' rb (.slice ao len cap) e := by
  have HP0 : Hid _ := ⟨rp_start hd hr hna⟩
  have HB : Hid ((∀ i, 0 ≤ bs i ∧ bs i < 256) ∧ len ≤ 1048576 ∧ t ≤ len) := ⟨hbs, hl, ht⟩
  clear hd hr hna hbs hl ht
  have tk : True := trivial
  go_enter Tryd.func40, Tryd.ntmps40
  go_upto_region 1 with (fail)
  obtain ⟨g, hg⟩ : ∃ g, w.heap.size = g := ⟨_, rfl⟩
  generalize w.alloc (.cells #[.int .i64 0, .int .i64 0, .int .i64 0] 74) = W at *
  rw [hg] at HP0 ⊢
  clear hg
  obtain ⟨⟨a0, q0⟩, ⟨a1, q1⟩, ⟨a2, q2⟩, z0, z1, z2⟩ := HP0.out.there
  go_wp2_with (go_at_call 58; (with_reducible refine (uleb_rd rb ao len cap t bs _ HP0.out.rd HP0.out.row HB.out.1 (by have := HB.out.2.1; omega)).mono ?_); intro e w1 he; rw [hu] at he; (have he' : e = _ := he.1); subst he'; have HP1 : Hid _ := ⟨HP0.out.go he.2.1 he.2.2⟩; have o1 := HP1.out.rd.c2; clear he; obtain ⟨⟨a0, q0⟩, ⟨a1, q1⟩, ⟨a2, q2⟩, z0, z1, z2⟩ := HP1.out.there)
  have P9 := HP1.out.put (.int .i64 (8)) (.int .i64 (n)) (.int .i64 (0))
  refine bodyPost_ret (res_op Tryd.results40 _ _ g _ _ _ rfl P9.2.2.1 P9.2.2.2.1 P9.2.2.2.2) rfl ?_
  exact ⟨rfl, P9.1, P9.2.1⟩

set_option maxHeartbeats 2000000 in
set_option maxRecDepth 10000 in
theorem op_8n (rb : Nat) (ao : Option Addr) (len cap t : Nat) (bs : Nat → Int) (w : World) (hd : RD w rb (.slice ao len cap) (t : Int) true) (hr : Row w ao len bs) (hna : 0 < len → ∀ b off, ao = some ⟨b, off, none⟩ → b ≠ rb) (hbs : ∀ i, 0 ≤ bs i ∧ bs i < 256) (hl : len ≤ 1048576) (ht : t ≤ len) (hu : uN len bs t = none) :
    Calls Tryd.prog 40 #[.pointer (some ⟨rb, 0, none⟩), .int .i64 8] w fun e w' => RO (none) w w' rb (.slice ao len cap) e := by
  have HP0 : Hid _ := ⟨rp_start hd hr hna⟩
  have HB : Hid ((∀ i, 0 ≤ bs i ∧ bs i < 256) ∧ len ≤ 1048576 ∧ t ≤ len) := ⟨hbs, hl, ht⟩
  clear hd hr hna hbs hl ht
  have tk : True := trivial
  go_enter Tryd.func40, Tryd.ntmps40
  go_upto_region 1 with (fail)
  obtain ⟨g, hg⟩ : ∃ g, w.heap.size = g := ⟨_, rfl⟩
  generalize w.alloc (.cells #[.int .i64 0, .int .i64 0, .int .i64 0] 74) = W at *
  rw [hg] at HP0 ⊢
  clear hg
  obtain ⟨⟨a0, q0⟩, ⟨a1, q1⟩, ⟨a2, q2⟩, z0, z1, z2⟩ := HP0.out.there
  go_wp2_with (go_at_call 58; (with_reducible refine (uleb_rd rb ao len cap t bs _ HP0.out.rd HP0.out.row HB.out.1 (by have := HB.out.2.1; omega)).mono ?_); intro e w1 he; rw [hu] at he; (obtain ⟨n, e1, he1, he2, he3⟩ := he); subst he1; have HP1 : Hid _ := ⟨HP0.out.go he2 he3⟩; have o1 := HP1.out.rd.c2; obtain ⟨⟨a0, q0⟩, ⟨a1, q1⟩, ⟨a2, q2⟩, z0, z1, z2⟩ := HP1.out.there)
  have P9 := HP1.out.put (.int .i64 (8)) (.int .i64 (n)) (.int .i64 (0))
  refine bodyPost_ret (res_op Tryd.results40 _ _ g _ _ _ rfl P9.2.2.1 P9.2.2.2.1 P9.2.2.2.2) rfl ?_
  exact ⟨⟨8, n, 0⟩, _, rfl, P9.1, P9.2.1⟩

set_option maxHeartbeats 2000000 in
set_option maxRecDepth 10000 in
theorem op_13s (rb : Nat) (ao : Option Addr) (len cap t : Nat) (bs : Nat → Int) (n : Int) (e1 : Nat) (w : World) (hd : RD w rb (.slice ao len cap) (t : Int) true) (hr : Row w ao len bs) (hna : 0 < len → ∀ b off, ao = some ⟨b, off, none⟩ → b ≠ rb) (hbs : ∀ i, 0 ≤ bs i ∧ bs i < 256) (hl : len ≤ 1048576) (ht : t ≤ len) (hu : uN len bs t = some (n, e1)) :
    Calls Tryd.prog 40 #[.pointer (some ⟨rb, 0, none⟩), .int .i64 13] w fun e w' => RO (some (⟨4, n, 0⟩, e1)) w w' rb (.slice ao len cap) e := by
  have HP0 : Hid _ := ⟨rp_start hd hr hna⟩
  have HB : Hid ((∀ i, 0 ≤ bs i ∧ bs i < 256) ∧ len ≤ 1048576 ∧ t ≤ len) := ⟨hbs, hl, ht⟩
  clear hd hr hna hbs hl ht
  have tk : True := trivial
  go_enter Tryd.func40, Tryd.ntmps40
  go_upto_region 1 with (fail)
  obtain ⟨g, hg⟩ : ∃ g, w.heap.size = g := ⟨_, rfl⟩
  generalize w.alloc (.cells #[.int .i64 0, .int .i64 0, .int .i64 0] 74) = W at *
  rw [hg] at HP0 ⊢
  clear hg
  obtain ⟨⟨a0, q0⟩, ⟨a1, q1⟩, ⟨a2, q2⟩, z0, z1, z2⟩ := HP0.out.there
  go_wp2_with (go_at_call 58; (with_reducible refine (uleb_rd rb ao len cap t bs _ HP0.out.rd HP0.out.row HB.out.1 (by have := HB.out.2.1; omega)).mono ?_); intro e w1 he; rw [hu] at he; (have he' : e = _ := he.1); subst he'; have HP1 : Hid _ := ⟨HP0.out.go he.2.1 he.2.2⟩; have o1 := HP1.out.rd.c2; clear he; obtain ⟨⟨a0, q0⟩, ⟨a1, q1⟩, ⟨a2, q2⟩, z0, z1, z2⟩ := HP1.out.there)
  have P9 := HP1.out.put (.int .i64 (4)) (.int .i64 (n)) (.int .i64 (0))
  refine bodyPost_ret (res_op Tryd.results40 _ _ g _ _ _ rfl P9.2.2.1 P9.2.2.2.1 P9.2.2.2.2) rfl ?_
  exact ⟨rfl, P9.1, P9.2.1⟩

set_option maxHeartbeats 2000000 in
set_option maxRecDepth 10000 in
theorem op_13n (rb : Nat) (ao : Option Addr) (len cap t : Nat) (bs : Nat → Int) (w : World) (hd : RD w rb (.slice ao len cap) (t : Int) true) (hr : Row w ao len bs) (hna : 0 < len → ∀ b off, ao = some ⟨b, off, none⟩ → b ≠ rb) (hbs : ∀ i, 0 ≤ bs i ∧ bs i < 256) (hl : len ≤ 1048576) (ht : t ≤ len) (hu : uN len bs t = none) :
    Calls Tryd.prog 40 #[.pointer (some ⟨rb, 0, none⟩), .int .i64 13] w fun e w' => RO (none) w w' rb (.slice ao len cap) e := by
  have HP0 : Hid _ := ⟨rp_start hd hr hna⟩
  have HB : Hid ((∀ i, 0 ≤ bs i ∧ bs i < 256) ∧ len ≤ 1048576 ∧ t ≤ len) := ⟨hbs, hl, ht⟩
  clear hd hr hna hbs hl ht
  have tk : True := trivial
  go_enter Tryd.func40, Tryd.ntmps40
  go_upto_region 1 with (fail)
  obtain ⟨g, hg⟩ : ∃ g, w.heap.size = g := ⟨_, rfl⟩
  generalize w.alloc (.cells #[.int .i64 0, .int .i64 0, .int .i64 0] 74) = W at *
  rw [hg] at HP0 ⊢
  clear hg
  obtain ⟨⟨a0, q0⟩, ⟨a1, q1⟩, ⟨a2, q2⟩, z0, z1, z2⟩ := HP0.out.there
  go_wp2_with (go_at_call 58; (with_reducible refine (uleb_rd rb ao len cap t bs _ HP0.out.rd HP0.out.row HB.out.1 (by have := HB.out.2.1; omega)).mono ?_); intro e w1 he; rw [hu] at he; (obtain ⟨n, e1, he1, he2, he3⟩ := he); subst he1; have HP1 : Hid _ := ⟨HP0.out.go he2 he3⟩; have o1 := HP1.out.rd.c2; obtain ⟨⟨a0, q0⟩, ⟨a1, q1⟩, ⟨a2, q2⟩, z0, z1, z2⟩ := HP1.out.there)
  have P9 := HP1.out.put (.int .i64 (4)) (.int .i64 (n)) (.int .i64 (0))
  refine bodyPost_ret (res_op Tryd.results40 _ _ g _ _ _ rfl P9.2.2.1 P9.2.2.2.1 P9.2.2.2.2) rfl ?_
  exact ⟨⟨4, n, 0⟩, _, rfl, P9.1, P9.2.1⟩

set_option maxHeartbeats 2000000 in
set_option maxRecDepth 10000 in
theorem op_14s (rb : Nat) (ao : Option Addr) (len cap t : Nat) (bs : Nat → Int) (n : Int) (e1 : Nat) (w : World) (hd : RD w rb (.slice ao len cap) (t : Int) true) (hr : Row w ao len bs) (hna : 0 < len → ∀ b off, ao = some ⟨b, off, none⟩ → b ≠ rb) (hbs : ∀ i, 0 ≤ bs i ∧ bs i < 256) (hl : len ≤ 1048576) (ht : t ≤ len) (hu : uN len bs t = some (n, e1)) :
    Calls Tryd.prog 40 #[.pointer (some ⟨rb, 0, none⟩), .int .i64 14] w fun e w' => RO (some (⟨3, 0, n⟩, e1)) w w' rb (.slice ao len cap) e := by
  have HP0 : Hid _ := ⟨rp_start hd hr hna⟩
  have HB : Hid ((∀ i, 0 ≤ bs i ∧ bs i < 256) ∧ len ≤ 1048576 ∧ t ≤ len) := ⟨hbs, hl, ht⟩
  clear hd hr hna hbs hl ht
  have tk : True := trivial
  go_enter Tryd.func40, Tryd.ntmps40
  go_upto_region 1 with (fail)
  obtain ⟨g, hg⟩ : ∃ g, w.heap.size = g := ⟨_, rfl⟩
  generalize w.alloc (.cells #[.int .i64 0, .int .i64 0, .int .i64 0] 74) = W at *
  rw [hg] at HP0 ⊢
  clear hg
  obtain ⟨⟨a0, q0⟩, ⟨a1, q1⟩, ⟨a2, q2⟩, z0, z1, z2⟩ := HP0.out.there
  go_wp2_with (go_at_call 58; (with_reducible refine (uleb_rd rb ao len cap t bs _ HP0.out.rd HP0.out.row HB.out.1 (by have := HB.out.2.1; omega)).mono ?_); intro e w1 he; rw [hu] at he; (have he' : e = _ := he.1); subst he'; have HP1 : Hid _ := ⟨HP0.out.go he.2.1 he.2.2⟩; have o1 := HP1.out.rd.c2; clear he; obtain ⟨⟨a0, q0⟩, ⟨a1, q1⟩, ⟨a2, q2⟩, z0, z1, z2⟩ := HP1.out.there)
  have P9 := HP1.out.put (.int .i64 (3)) (.int .i64 (0)) (.int .i64 (n))
  refine bodyPost_ret (res_op Tryd.results40 _ _ g _ _ _ rfl P9.2.2.1 P9.2.2.2.1 P9.2.2.2.2) rfl ?_
  exact ⟨rfl, P9.1, P9.2.1⟩

set_option maxHeartbeats 2000000 in
set_option maxRecDepth 10000 in
theorem op_14n (rb : Nat) (ao : Option Addr) (len cap t : Nat) (bs : Nat → Int) (w : World) (hd : RD w rb (.slice ao len cap) (t : Int) true) (hr : Row w ao len bs) (hna : 0 < len → ∀ b off, ao = some ⟨b, off, none⟩ → b ≠ rb) (hbs : ∀ i, 0 ≤ bs i ∧ bs i < 256) (hl : len ≤ 1048576) (ht : t ≤ len) (hu : uN len bs t = none) :
    Calls Tryd.prog 40 #[.pointer (some ⟨rb, 0, none⟩), .int .i64 14] w fun e w' => RO (none) w w' rb (.slice ao len cap) e := by
  have HP0 : Hid _ := ⟨rp_start hd hr hna⟩
  have HB : Hid ((∀ i, 0 ≤ bs i ∧ bs i < 256) ∧ len ≤ 1048576 ∧ t ≤ len) := ⟨hbs, hl, ht⟩
  clear hd hr hna hbs hl ht
  have tk : True := trivial
  go_enter Tryd.func40, Tryd.ntmps40
  go_upto_region 1 with (fail)
  obtain ⟨g, hg⟩ : ∃ g, w.heap.size = g := ⟨_, rfl⟩
  generalize w.alloc (.cells #[.int .i64 0, .int .i64 0, .int .i64 0] 74) = W at *
  rw [hg] at HP0 ⊢
  clear hg
  obtain ⟨⟨a0, q0⟩, ⟨a1, q1⟩, ⟨a2, q2⟩, z0, z1, z2⟩ := HP0.out.there
  go_wp2_with (go_at_call 58; (with_reducible refine (uleb_rd rb ao len cap t bs _ HP0.out.rd HP0.out.row HB.out.1 (by have := HB.out.2.1; omega)).mono ?_); intro e w1 he; rw [hu] at he; (obtain ⟨n, e1, he1, he2, he3⟩ := he); subst he1; have HP1 : Hid _ := ⟨HP0.out.go he2 he3⟩; have o1 := HP1.out.rd.c2; obtain ⟨⟨a0, q0⟩, ⟨a1, q1⟩, ⟨a2, q2⟩, z0, z1, z2⟩ := HP1.out.there)
  have P9 := HP1.out.put (.int .i64 (3)) (.int .i64 (0)) (.int .i64 (n))
  refine bodyPost_ret (res_op Tryd.results40 _ _ g _ _ _ rfl P9.2.2.1 P9.2.2.2.1 P9.2.2.2.2) rfl ?_
  exact ⟨⟨3, 0, n⟩, _, rfl, P9.1, P9.2.1⟩

set_option maxHeartbeats 2000000 in
set_option maxRecDepth 10000 in
theorem op_0 (rb : Nat) (ao : Option Addr) (len cap t : Nat) (bs : Nat → Int) (w : World) (hd : RD w rb (.slice ao len cap) (t : Int) true) (hr : Row w ao len bs) (hna : 0 < len → ∀ b off, ao = some ⟨b, off, none⟩ → b ≠ rb) (hbs : ∀ i, 0 ≤ bs i ∧ bs i < 256) (hl : len ≤ 1048576) (ht : t ≤ len) :
    Calls Tryd.prog 40 #[.pointer (some ⟨rb, 0, none⟩), .int .i64 0] w fun e w' => RO (some (⟨0, 0, 0⟩, t)) w w' rb (.slice ao len cap) e := by
  have HP0 : Hid _ := ⟨rp_start hd hr hna⟩
  have HB : Hid ((∀ i, 0 ≤ bs i ∧ bs i < 256) ∧ len ≤ 1048576 ∧ t ≤ len) := ⟨hbs, hl, ht⟩
  clear hd hr hna hbs hl ht
  have tk : True := trivial
  go_enter Tryd.func40, Tryd.ntmps40
  go_upto_region 1 with (fail)
  obtain ⟨g, hg⟩ : ∃ g, w.heap.size = g := ⟨_, rfl⟩
  generalize w.alloc (.cells #[.int .i64 0, .int .i64 0, .int .i64 0] 74) = W at *
  rw [hg] at HP0 ⊢
  clear hg
  obtain ⟨⟨a0, q0⟩, ⟨a1, q1⟩, ⟨a2, q2⟩, z0, z1, z2⟩ := HP0.out.there
  go_wp2
  have P9 := HP0.out.put (.int .i64 (0)) (.int .i64 (0)) (.int .i64 (0))
  refine bodyPost_ret (res_op Tryd.results40 _ _ g _ _ _ rfl P9.2.2.1 P9.2.2.2.1 P9.2.2.2.2) rfl ?_
  exact ⟨rfl, P9.1, P9.2.1⟩

set_option maxHeartbeats 2000000 in
set_option maxRecDepth 10000 in
theorem op_10 (rb : Nat) (ao : Option Addr) (len cap t : Nat) (bs : Nat → Int) (w : World) (hd : RD w rb (.slice ao len cap) (t : Int) true) (hr : Row w ao len bs) (hna : 0 < len → ∀ b off, ao = some ⟨b, off, none⟩ → b ≠ rb) (hbs : ∀ i, 0 ≤ bs i ∧ bs i < 256) (hl : len ≤ 1048576) (ht : t ≤ len) :
    Calls Tryd.prog 40 #[.pointer (some ⟨rb, 0, none⟩), .int .i64 10] w fun e w' => RO (some (⟨9, 0, 0⟩, t)) w w' rb (.slice ao len cap) e := by
  have HP0 : Hid _ := ⟨rp_start hd hr hna⟩
  have HB : Hid ((∀ i, 0 ≤ bs i ∧ bs i < 256) ∧ len ≤ 1048576 ∧ t ≤ len) := ⟨hbs, hl, ht⟩
  clear hd hr hna hbs hl ht
  have tk : True := trivial
  go_enter Tryd.func40, Tryd.ntmps40
  go_upto_region 1 with (fail)
  obtain ⟨g, hg⟩ : ∃ g, w.heap.size = g := ⟨_, rfl⟩
  generalize w.alloc (.cells #[.int .i64 0, .int .i64 0, .int .i64 0] 74) = W at *
  rw [hg] at HP0 ⊢
  clear hg
  obtain ⟨⟨a0, q0⟩, ⟨a1, q1⟩, ⟨a2, q2⟩, z0, z1, z2⟩ := HP0.out.there
  go_wp2
  have P9 := HP0.out.put (.int .i64 (9)) (.int .i64 (0)) (.int .i64 (0))
  refine bodyPost_ret (res_op Tryd.results40 _ _ g _ _ _ rfl P9.2.2.1 P9.2.2.2.1 P9.2.2.2.2) rfl ?_
  exact ⟨rfl, P9.1, P9.2.1⟩

set_option maxHeartbeats 2000000 in
set_option maxRecDepth 10000 in
theorem op_11 (rb : Nat) (ao : Option Addr) (len cap t : Nat) (bs : Nat → Int) (w : World) (hd : RD w rb (.slice ao len cap) (t : Int) true) (hr : Row w ao len bs) (hna : 0 < len → ∀ b off, ao = some ⟨b, off, none⟩ → b ≠ rb) (hbs : ∀ i, 0 ≤ bs i ∧ bs i < 256) (hl : len ≤ 1048576) (ht : t ≤ len) :
    Calls Tryd.prog 40 #[.pointer (some ⟨rb, 0, none⟩), .int .i64 11] w fun e w' => RO (some (⟨10, 0, 0⟩, t)) w w' rb (.slice ao len cap) e := by
  have HP0 : Hid _ := ⟨rp_start hd hr hna⟩
  have HB : Hid ((∀ i, 0 ≤ bs i ∧ bs i < 256) ∧ len ≤ 1048576 ∧ t ≤ len) := ⟨hbs, hl, ht⟩
  clear hd hr hna hbs hl ht
  have tk : True := trivial
  go_enter Tryd.func40, Tryd.ntmps40
  go_upto_region 1 with (fail)
  obtain ⟨g, hg⟩ : ∃ g, w.heap.size = g := ⟨_, rfl⟩
  generalize w.alloc (.cells #[.int .i64 0, .int .i64 0, .int .i64 0] 74) = W at *
  rw [hg] at HP0 ⊢
  clear hg
  obtain ⟨⟨a0, q0⟩, ⟨a1, q1⟩, ⟨a2, q2⟩, z0, z1, z2⟩ := HP0.out.there
  go_wp2
  have P9 := HP0.out.put (.int .i64 (10)) (.int .i64 (0)) (.int .i64 (0))
  refine bodyPost_ret (res_op Tryd.results40 _ _ g _ _ _ rfl P9.2.2.1 P9.2.2.2.1 P9.2.2.2.2) rfl ?_
  exact ⟨rfl, P9.1, P9.2.1⟩

set_option maxHeartbeats 2000000 in
set_option maxRecDepth 10000 in
theorem op_lo (rb : Nat) (ao : Option Addr) (len cap t : Nat) (bs : Nat → Int) (c : Int) (w : World) (hd : RD w rb (.slice ao len cap) (t : Int) true) (hr : Row w ao len bs) (hna : 0 < len → ∀ b off, ao = some ⟨b, off, none⟩ → b ≠ rb) (hbs : ∀ i, 0 ≤ bs i ∧ bs i < 256) (hl : len ≤ 1048576) (ht : t ≤ len) (h1 : 64 ≤ c) (h2 : c < 128) :
    Calls Tryd.prog 40 #[.pointer (some ⟨rb, 0, none⟩), .int .i64 c] w fun e w' => RO (some (⟨1, 0, c - 64⟩, t)) w w' rb (.slice ao len cap) e := by
  have HP0 : Hid _ := ⟨rp_start hd hr hna⟩
  have HB : Hid ((∀ i, 0 ≤ bs i ∧ bs i < 256) ∧ len ≤ 1048576 ∧ t ≤ len) := ⟨hbs, hl, ht⟩
  clear hd hr hna hbs hl ht
  have tk : True := trivial
  go_enter Tryd.func40, Tryd.ntmps40
  go_upto_region 1 with (fail)
  obtain ⟨g, hg⟩ : ∃ g, w.heap.size = g := ⟨_, rfl⟩
  generalize w.alloc (.cells #[.int .i64 0, .int .i64 0, .int .i64 0] 74) = W at *
  rw [hg] at HP0 ⊢
  clear hg
  obtain ⟨⟨a0, q0⟩, ⟨a1, q1⟩, ⟨a2, q2⟩, z0, z1, z2⟩ := HP0.out.there
  go_wp2
  have P9 := HP0.out.put (.int .i64 (1)) (.int .i64 (0)) (.int .i64 (c - 64))
  refine bodyPost_ret (res_op Tryd.results40 _ _ g _ _ _ rfl P9.2.2.1 P9.2.2.2.1 P9.2.2.2.2) rfl ?_
  exact ⟨rfl, P9.1, P9.2.1⟩

set_option maxHeartbeats 2000000 in
set_option maxRecDepth 10000 in
theorem op_bad (rb : Nat) (ao : Option Addr) (len cap t : Nat) (bs : Nat → Int) (c : Int) (w : World) (hd : RD w rb (.slice ao len cap) (t : Int) true) (hr : Row w ao len bs) (hna : 0 < len → ∀ b off, ao = some ⟨b, off, none⟩ → b ≠ rb) (hbs : ∀ i, 0 ≤ bs i ∧ bs i < 256) (hl : len ≤ 1048576) (ht : t ≤ len) (h2 : c < 64) (b0 : (c == 0) = false) (b2 : (c == 2) = false) (b3 : (c == 3) = false) (b4 : (c == 4) = false) (b5 : (c == 5) = false) (b6 : (c == 6) = false) (b7 : (c == 7) = false) (b8 : (c == 8) = false) (b10 : (c == 10) = false) (b11 : (c == 11) = false) (b12 : (c == 12) = false) (b13 : (c == 13) = false) (b14 : (c == 14) = false) (b17 : (c == 17) = false) :
    Calls Tryd.prog 40 #[.pointer (some ⟨rb, 0, none⟩), .int .i64 c] w fun e w' => RO (none) w w' rb (.slice ao len cap) e := by
  have HP0 : Hid _ := ⟨rp_start hd hr hna⟩
  have HB : Hid ((∀ i, 0 ≤ bs i ∧ bs i < 256) ∧ len ≤ 1048576 ∧ t ≤ len) := ⟨hbs, hl, ht⟩
  clear hd hr hna hbs hl ht
  have tk : True := trivial
  go_enter Tryd.func40, Tryd.ntmps40
  go_upto_region 1 with (fail)
  obtain ⟨g, hg⟩ : ∃ g, w.heap.size = g := ⟨_, rfl⟩
  generalize w.alloc (.cells #[.int .i64 0, .int .i64 0, .int .i64 0] 74) = W at *
  rw [hg] at HP0 ⊢
  clear hg
  obtain ⟨⟨a0, q0⟩, ⟨a1, q1⟩, ⟨a2, q2⟩, z0, z1, z2⟩ := HP0.out.there
  have o0 := HP0.out.rd.c2
  have f0 := HP0.out.rd.fz 2
  have HPx : Hid _ := ⟨HP0.out.go (HP0.out.rd.set2 false) ((Turn.refl (fun k => k = rb) W).setCell ⟨rb, 2, none⟩ (.inl rfl) _)⟩
  go_upto_region 44 with (fail)
  generalize W.setCell ⟨rb, 2, none⟩ (.bool false) = W9 at *
  clear q0 q1 q2 z0 z1 z2
  obtain ⟨⟨a0, q0⟩, ⟨a1, q1⟩, ⟨a2, q2⟩, z0, z1, z2⟩ := HPx.out.there
  go_wp2
  have P9 := HPx.out.put (.int .i64 (0)) (.int .i64 (0)) (.int .i64 (0))
  refine bodyPost_ret (res_op Tryd.results40 _ _ g _ _ _ rfl P9.2.2.1 P9.2.2.2.1 P9.2.2.2.2) rfl ?_
  exact ⟨⟨0, 0, 0⟩, _, rfl, P9.1, P9.2.1⟩


set_option maxHeartbeats 2000000 in
set_option maxRecDepth 10000 in
theorem op_2s (rb : Nat) (ao : Option Addr) (len cap t : Nat) (bs : Nat → Int) (n : Int) (e1 : Nat) (w : World) (hd : RD w rb (.slice ao len cap) (t : Int) true) (hr : Row w ao len bs) (hna : 0 < len → ∀ b off, ao = some ⟨b, off, none⟩ → b ≠ rb) (hbs : ∀ i, 0 ≤ bs i ∧ bs i < 256) (hl : len ≤ 1048576) (ht : t ≤ len) (hu : gN len bs t 1 = some (n, e1)) :
    Calls Tryd.prog 40 #[.pointer (some ⟨rb, 0, none⟩), .int .i64 2] w fun e w' => RO (some (⟨1, 0, n⟩, e1)) w w' rb (.slice ao len cap) e := by
  have HP0 : Hid _ := ⟨rp_start hd hr hna⟩
  have HB : Hid ((∀ i, 0 ≤ bs i ∧ bs i < 256) ∧ len ≤ 1048576 ∧ t ≤ len) := ⟨hbs, hl, ht⟩
  clear hd hr hna hbs hl ht
  have tk : True := trivial
  have HN : Hid (∀ W, RD W rb (.slice ao len cap) (t : Int) true → Row W ao len bs → Calls Tryd.prog 59 #[.pointer (some ⟨rb, 0, none⟩), .int .i64 1] W fun e w' => RE (gN len bs t 1) W w' rb (.slice ao len cap) e) := ⟨fun W h1 h2 => number_rd rb ao len cap t 1 bs W h1 h2 HB.out.1 HB.out.2.1 (by omega) HB.out.2.2⟩
  go_enter Tryd.func40, Tryd.ntmps40
  go_upto_region 1 with (fail)
  obtain ⟨g, hg⟩ : ∃ g, w.heap.size = g := ⟨_, rfl⟩
  generalize w.alloc (.cells #[.int .i64 0, .int .i64 0, .int .i64 0] 74) = W at *
  rw [hg] at HP0 ⊢
  clear hg
  obtain ⟨⟨a0, q0⟩, ⟨a1, q1⟩, ⟨a2, q2⟩, z0, z1, z2⟩ := HP0.out.there
  go_wp2_with (go_at_call 59; (with_reducible refine (HN.out _ HP0.out.rd HP0.out.row).mono ?_); intro e w1 he; rw [hu] at he; (have he' : e = _ := he.1); subst he'; have HP1 : Hid _ := ⟨HP0.out.go he.2.1 he.2.2⟩; clear he; obtain ⟨⟨a0, q0⟩, ⟨a1, q1⟩, ⟨a2, q2⟩, z0, z1, z2⟩ := HP1.out.there)
  have P9 := HP1.out.put (.int .i64 (1)) (.int .i64 (0)) (.int .i64 (n))
  refine bodyPost_ret (res_op Tryd.results40 _ _ g _ _ _ rfl P9.2.2.1 P9.2.2.2.1 P9.2.2.2.2) rfl ?_
  exact ⟨rfl, P9.1, P9.2.1⟩

set_option maxHeartbeats 2000000 in
set_option maxRecDepth 10000 in
theorem op_2n (rb : Nat) (ao : Option Addr) (len cap t : Nat) (bs : Nat → Int) (w : World) (hd : RD w rb (.slice ao len cap) (t : Int) true) (hr : Row w ao len bs) (hna : 0 < len → ∀ b off, ao = some ⟨b, off, none⟩ → b ≠ rb) (hbs : ∀ i, 0 ≤ bs i ∧ bs i < 256) (hl : len ≤ 1048576) (ht : t ≤ len) (hu : gN len bs t 1 = none) :
    Calls Tryd.prog 40 #[.pointer (some ⟨rb, 0, none⟩), .int .i64 2] w fun e w' => RO (none) w w' rb (.slice ao len cap) e := by
  have HP0 : Hid _ := ⟨rp_start hd hr hna⟩
  have HB : Hid ((∀ i, 0 ≤ bs i ∧ bs i < 256) ∧ len ≤ 1048576 ∧ t ≤ len) := ⟨hbs, hl, ht⟩
  clear hd hr hna hbs hl ht
  have tk : True := trivial
  have HN : Hid (∀ W, RD W rb (.slice ao len cap) (t : Int) true → Row W ao len bs → Calls Tryd.prog 59 #[.pointer (some ⟨rb, 0, none⟩), .int .i64 1] W fun e w' => RE (gN len bs t 1) W w' rb (.slice ao len cap) e) := ⟨fun W h1 h2 => number_rd rb ao len cap t 1 bs W h1 h2 HB.out.1 HB.out.2.1 (by omega) HB.out.2.2⟩
  go_enter Tryd.func40, Tryd.ntmps40
  go_upto_region 1 with (fail)
  obtain ⟨g, hg⟩ : ∃ g, w.heap.size = g := ⟨_, rfl⟩
  generalize w.alloc (.cells #[.int .i64 0, .int .i64 0, .int .i64 0] 74) = W at *
  rw [hg] at HP0 ⊢
  clear hg
  obtain ⟨⟨a0, q0⟩, ⟨a1, q1⟩, ⟨a2, q2⟩, z0, z1, z2⟩ := HP0.out.there
  go_wp2_with (go_at_call 59; (with_reducible refine (HN.out _ HP0.out.rd HP0.out.row).mono ?_); intro e w1 he; rw [hu] at he; (obtain ⟨n, e1, he1, he2, he3⟩ := he); subst he1; have HP1 : Hid _ := ⟨HP0.out.go he2 he3⟩; obtain ⟨⟨a0, q0⟩, ⟨a1, q1⟩, ⟨a2, q2⟩, z0, z1, z2⟩ := HP1.out.there)
  have P9 := HP1.out.put (.int .i64 (1)) (.int .i64 (0)) (.int .i64 (n))
  refine bodyPost_ret (res_op Tryd.results40 _ _ g _ _ _ rfl P9.2.2.1 P9.2.2.2.1 P9.2.2.2.2) rfl ?_
  exact ⟨⟨1, 0, n⟩, _, rfl, P9.1, P9.2.1⟩

set_option maxHeartbeats 2000000 in
set_option maxRecDepth 10000 in
theorem op_3s (rb : Nat) (ao : Option Addr) (len cap t : Nat) (bs : Nat → Int) (n : Int) (e1 : Nat) (w : World) (hd : RD w rb (.slice ao len cap) (t : Int) true) (hr : Row w ao len bs) (hna : 0 < len → ∀ b off, ao = some ⟨b, off, none⟩ → b ≠ rb) (hbs : ∀ i, 0 ≤ bs i ∧ bs i < 256) (hl : len ≤ 1048576) (ht : t ≤ len) (hu : gN len bs t 2 = some (n, e1)) :
    Calls Tryd.prog 40 #[.pointer (some ⟨rb, 0, none⟩), .int .i64 3] w fun e w' => RO (some (⟨1, 0, n⟩, e1)) w w' rb (.slice ao len cap) e := by
  have HP0 : Hid _ := ⟨rp_start hd hr hna⟩
  have HB : Hid ((∀ i, 0 ≤ bs i ∧ bs i < 256) ∧ len ≤ 1048576 ∧ t ≤ len) := ⟨hbs, hl, ht⟩
  clear hd hr hna hbs hl ht
  have tk : True := trivial
  have HN : Hid (∀ W, RD W rb (.slice ao len cap) (t : Int) true → Row W ao len bs → Calls Tryd.prog 59 #[.pointer (some ⟨rb, 0, none⟩), .int .i64 2] W fun e w' => RE (gN len bs t 2) W w' rb (.slice ao len cap) e) := ⟨fun W h1 h2 => number_rd rb ao len cap t 2 bs W h1 h2 HB.out.1 HB.out.2.1 (by omega) HB.out.2.2⟩
  go_enter Tryd.func40, Tryd.ntmps40
  go_upto_region 1 with (fail)
  obtain ⟨g, hg⟩ : ∃ g, w.heap.size = g := ⟨_, rfl⟩
  generalize w.alloc (.cells #[.int .i64 0, .int .i64 0, .int .i64 0] 74) = W at *
  rw [hg] at HP0 ⊢
  clear hg
  obtain ⟨⟨a0, q0⟩, ⟨a1, q1⟩, ⟨a2, q2⟩, z0, z1, z2⟩ := HP0.out.there
  go_wp2_with (go_at_call 59; (with_reducible refine (HN.out _ HP0.out.rd HP0.out.row).mono ?_); intro e w1 he; rw [hu] at he; (have he' : e = _ := he.1); subst he'; have HP1 : Hid _ := ⟨HP0.out.go he.2.1 he.2.2⟩; clear he; obtain ⟨⟨a0, q0⟩, ⟨a1, q1⟩, ⟨a2, q2⟩, z0, z1, z2⟩ := HP1.out.there)
  have P9 := HP1.out.put (.int .i64 (1)) (.int .i64 (0)) (.int .i64 (n))
  refine bodyPost_ret (res_op Tryd.results40 _ _ g _ _ _ rfl P9.2.2.1 P9.2.2.2.1 P9.2.2.2.2) rfl ?_
  exact ⟨rfl, P9.1, P9.2.1⟩

set_option maxHeartbeats 2000000 in
set_option maxRecDepth 10000 in
theorem op_3n (rb : Nat) (ao : Option Addr) (len cap t : Nat) (bs : Nat → Int) (w : World) (hd : RD w rb (.slice ao len cap) (t : Int) true) (hr : Row w ao len bs) (hna : 0 < len → ∀ b off, ao = some ⟨b, off, none⟩ → b ≠ rb) (hbs : ∀ i, 0 ≤ bs i ∧ bs i < 256) (hl : len ≤ 1048576) (ht : t ≤ len) (hu : gN len bs t 2 = none) :
    Calls Tryd.prog 40 #[.pointer (some ⟨rb, 0, none⟩), .int .i64 3] w fun e w' => RO (none) w w' rb (.slice ao len cap) e := by
  have HP0 : Hid _ := ⟨rp_start hd hr hna⟩
  have HB : Hid ((∀ i, 0 ≤ bs i ∧ bs i < 256) ∧ len ≤ 1048576 ∧ t ≤ len) := ⟨hbs, hl, ht⟩
  clear hd hr hna hbs hl ht
  have tk : True := trivial
  have HN : Hid (∀ W, RD W rb (.slice ao len cap) (t : Int) true → Row W ao len bs → Calls Tryd.prog 59 #[.pointer (some ⟨rb, 0, none⟩), .int .i64 2] W fun e w' => RE (gN len bs t 2) W w' rb (.slice ao len cap) e) := ⟨fun W h1 h2 => number_rd rb ao len cap t 2 bs W h1 h2 HB.out.1 HB.out.2.1 (by omega) HB.out.2.2⟩
  go_enter Tryd.func40, Tryd.ntmps40
  go_upto_region 1 with (fail)
  obtain ⟨g, hg⟩ : ∃ g, w.heap.size = g := ⟨_, rfl⟩
  generalize w.alloc (.cells #[.int .i64 0, .int .i64 0, .int .i64 0] 74) = W at *
  rw [hg] at HP0 ⊢
  clear hg
  obtain ⟨⟨a0, q0⟩, ⟨a1, q1⟩, ⟨a2, q2⟩, z0, z1, z2⟩ := HP0.out.there
  go_wp2_with (go_at_call 59; (with_reducible refine (HN.out _ HP0.out.rd HP0.out.row).mono ?_); intro e w1 he; rw [hu] at he; (obtain ⟨n, e1, he1, he2, he3⟩ := he); subst he1; have HP1 : Hid _ := ⟨HP0.out.go he2 he3⟩; obtain ⟨⟨a0, q0⟩, ⟨a1, q1⟩, ⟨a2, q2⟩, z0, z1, z2⟩ := HP1.out.there)
  have P9 := HP1.out.put (.int .i64 (1)) (.int .i64 (0)) (.int .i64 (n))
  refine bodyPost_ret (res_op Tryd.results40 _ _ g _ _ _ rfl P9.2.2.1 P9.2.2.2.1 P9.2.2.2.2) rfl ?_
  exact ⟨⟨1, 0, n⟩, _, rfl, P9.1, P9.2.1⟩

set_option maxHeartbeats 2000000 in
set_option maxRecDepth 10000 in
theorem op_4s (rb : Nat) (ao : Option Addr) (len cap t : Nat) (bs : Nat → Int) (n : Int) (e1 : Nat) (w : World) (hd : RD w rb (.slice ao len cap) (t : Int) true) (hr : Row w ao len bs) (hna : 0 < len → ∀ b off, ao = some ⟨b, off, none⟩ → b ≠ rb) (hbs : ∀ i, 0 ≤ bs i ∧ bs i < 256) (hl : len ≤ 1048576) (ht : t ≤ len) (hu : gN len bs t 4 = some (n, e1)) :
    Calls Tryd.prog 40 #[.pointer (some ⟨rb, 0, none⟩), .int .i64 4] w fun e w' => RO (some (⟨1, 0, n⟩, e1)) w w' rb (.slice ao len cap) e := by
  have HP0 : Hid _ := ⟨rp_start hd hr hna⟩
  have HB : Hid ((∀ i, 0 ≤ bs i ∧ bs i < 256) ∧ len ≤ 1048576 ∧ t ≤ len) := ⟨hbs, hl, ht⟩
  clear hd hr hna hbs hl ht
  have tk : True := trivial
  have HN : Hid (∀ W, RD W rb (.slice ao len cap) (t : Int) true → Row W ao len bs → Calls Tryd.prog 59 #[.pointer (some ⟨rb, 0, none⟩), .int .i64 4] W fun e w' => RE (gN len bs t 4) W w' rb (.slice ao len cap) e) := ⟨fun W h1 h2 => number_rd rb ao len cap t 4 bs W h1 h2 HB.out.1 HB.out.2.1 (by omega) HB.out.2.2⟩
  go_enter Tryd.func40, Tryd.ntmps40
  go_upto_region 1 with (fail)
  obtain ⟨g, hg⟩ : ∃ g, w.heap.size = g := ⟨_, rfl⟩
  generalize w.alloc (.cells #[.int .i64 0, .int .i64 0, .int .i64 0] 74) = W at *
  rw [hg] at HP0 ⊢
  clear hg
  obtain ⟨⟨a0, q0⟩, ⟨a1, q1⟩, ⟨a2, q2⟩, z0, z1, z2⟩ := HP0.out.there
  go_wp2_with (go_at_call 59; (with_reducible refine (HN.out _ HP0.out.rd HP0.out.row).mono ?_); intro e w1 he; rw [hu] at he; (have he' : e = _ := he.1); subst he'; have HP1 : Hid _ := ⟨HP0.out.go he.2.1 he.2.2⟩; clear he; obtain ⟨⟨a0, q0⟩, ⟨a1, q1⟩, ⟨a2, q2⟩, z0, z1, z2⟩ := HP1.out.there)
  have P9 := HP1.out.put (.int .i64 (1)) (.int .i64 (0)) (.int .i64 (n))
  refine bodyPost_ret (res_op Tryd.results40 _ _ g _ _ _ rfl P9.2.2.1 P9.2.2.2.1 P9.2.2.2.2) rfl ?_
  exact ⟨rfl, P9.1, P9.2.1⟩

set_option maxHeartbeats 2000000 in
set_option maxRecDepth 10000 in
theorem op_4n (rb : Nat) (ao : Option Addr) (len cap t : Nat) (bs : Nat → Int) (w : World) (hd : RD w rb (.slice ao len cap) (t : Int) true) (hr : Row w ao len bs) (hna : 0 < len → ∀ b off, ao = some ⟨b, off, none⟩ → b ≠ rb) (hbs : ∀ i, 0 ≤ bs i ∧ bs i < 256) (hl : len ≤ 1048576) (ht : t ≤ len) (hu : gN len bs t 4 = none) :
    Calls Tryd.prog 40 #[.pointer (some ⟨rb, 0, none⟩), .int .i64 4] w fun e w' => RO (none) w w' rb (.slice ao len cap) e := by
  have HP0 : Hid _ := ⟨rp_start hd hr hna⟩
  have HB : Hid ((∀ i, 0 ≤ bs i ∧ bs i < 256) ∧ len ≤ 1048576 ∧ t ≤ len) := ⟨hbs, hl, ht⟩
  clear hd hr hna hbs hl ht
  have tk : True := trivial
  have HN : Hid (∀ W, RD W rb (.slice ao len cap) (t : Int) true → Row W ao len bs → Calls Tryd.prog 59 #[.pointer (some ⟨rb, 0, none⟩), .int .i64 4] W fun e w' => RE (gN len bs t 4) W w' rb (.slice ao len cap) e) := ⟨fun W h1 h2 => number_rd rb ao len cap t 4 bs W h1 h2 HB.out.1 HB.out.2.1 (by omega) HB.out.2.2⟩
  go_enter Tryd.func40, Tryd.ntmps40
  go_upto_region 1 with (fail)
  obtain ⟨g, hg⟩ : ∃ g, w.heap.size = g := ⟨_, rfl⟩
  generalize w.alloc (.cells #[.int .i64 0, .int .i64 0, .int .i64 0] 74) = W at *
  rw [hg] at HP0 ⊢
  clear hg
  obtain ⟨⟨a0, q0⟩, ⟨a1, q1⟩, ⟨a2, q2⟩, z0, z1, z2⟩ := HP0.out.there
  go_wp2_with (go_at_call 59; (with_reducible refine (HN.out _ HP0.out.rd HP0.out.row).mono ?_); intro e w1 he; rw [hu] at he; (obtain ⟨n, e1, he1, he2, he3⟩ := he); subst he1; have HP1 : Hid _ := ⟨HP0.out.go he2 he3⟩; obtain ⟨⟨a0, q0⟩, ⟨a1, q1⟩, ⟨a2, q2⟩, z0, z1, z2⟩ := HP1.out.there)
  have P9 := HP1.out.put (.int .i64 (1)) (.int .i64 (0)) (.int .i64 (n))
  refine bodyPost_ret (res_op Tryd.results40 _ _ g _ _ _ rfl P9.2.2.1 P9.2.2.2.1 P9.2.2.2.2) rfl ?_
  exact ⟨⟨1, 0, n⟩, _, rfl, P9.1, P9.2.1⟩

set_option maxHeartbeats 2000000 in
set_option maxRecDepth 10000 in
theorem op_mid_s (rb : Nat) (ao : Option Addr) (len cap t : Nat) (bs : Nat → Int) (c n m : Int) (e1 : Nat) (w : World) (hd : RD w rb (.slice ao len cap) (t : Int) true) (hr : Row w ao len bs) (hna : 0 < len → ∀ b off, ao = some ⟨b, off, none⟩ → b ≠ rb) (hbs : ∀ i, 0 ≤ bs i ∧ bs i < 256) (hl : len ≤ 1048576) (ht : t ≤ len) (h1 : 128 ≤ c) (h2 : c < 192) (hu : uN len bs t = some (n, e1)) (hf : facM n = some m) :
    Calls Tryd.prog 40 #[.pointer (some ⟨rb, 0, none⟩), .int .i64 c] w fun e w' => RO (some (⟨5, c - 128, m⟩, e1)) w w' rb (.slice ao len cap) e := by
  have HP0 : Hid _ := ⟨rp_start hd hr hna⟩
  have HB : Hid ((∀ i, 0 ≤ bs i ∧ bs i < 256) ∧ len ≤ 1048576 ∧ t ≤ len) := ⟨hbs, hl, ht⟩
  clear hd hr hna hbs hl ht
  have tk : True := trivial
  go_enter Tryd.func40, Tryd.ntmps40
  go_upto_region 1 with (fail)
  obtain ⟨g, hg⟩ : ∃ g, w.heap.size = g := ⟨_, rfl⟩
  generalize w.alloc (.cells #[.int .i64 0, .int .i64 0, .int .i64 0] 74) = W at *
  rw [hg] at HP0 ⊢
  clear hg
  obtain ⟨⟨a0, q0⟩, ⟨a1, q1⟩, ⟨a2, q2⟩, z0, z1, z2⟩ := HP0.out.there
  go_wp2_with (first
    | (go_at_call 58; (with_reducible refine (uleb_rd rb ao len cap t bs _ HP0.out.rd HP0.out.row HB.out.1 (by have := HB.out.2.1; omega)).mono ?_); intro e w1 he; rw [hu] at he; (have he' : e = _ := he.1); subst he'; have HP1 : Hid _ := ⟨HP0.out.go he.2.1 he.2.2⟩; have o1 := HP1.out.rd.c2; clear he; obtain ⟨⟨a0, q0⟩, ⟨a1, q1⟩, ⟨a2, q2⟩, z0, z1, z2⟩ := HP1.out.there)
    | (go_at_call 57; (with_reducible refine (factor_ok rb n m _ hf).mono ?_); rintro e wf ⟨he, hw⟩; subst he; subst wf))
  have P9 := HP1.out.put (.int .i64 (5)) (.int .i64 (c - 128)) (.int .i64 (m))
  refine bodyPost_ret (res_op Tryd.results40 _ _ g _ _ _ rfl P9.2.2.1 P9.2.2.2.1 P9.2.2.2.2) rfl ?_
  exact ⟨rfl, P9.1, P9.2.1⟩

set_option maxHeartbeats 2000000 in
set_option maxRecDepth 10000 in
theorem op_mid_f (rb : Nat) (ao : Option Addr) (len cap t : Nat) (bs : Nat → Int) (c n : Int) (e1 : Nat) (w : World) (hd : RD w rb (.slice ao len cap) (t : Int) true) (hr : Row w ao len bs) (hna : 0 < len → ∀ b off, ao = some ⟨b, off, none⟩ → b ≠ rb) (hbs : ∀ i, 0 ≤ bs i ∧ bs i < 256) (hl : len ≤ 1048576) (ht : t ≤ len) (h1 : 128 ≤ c) (h2 : c < 192) (hu : uN len bs t = some (n, e1)) (hf : facM n = none) :
    Calls Tryd.prog 40 #[.pointer (some ⟨rb, 0, none⟩), .int .i64 c] w fun e w' => RO (none) w w' rb (.slice ao len cap) e := by
  have HP0 : Hid _ := ⟨rp_start hd hr hna⟩
  have HB : Hid ((∀ i, 0 ≤ bs i ∧ bs i < 256) ∧ len ≤ 1048576 ∧ t ≤ len) := ⟨hbs, hl, ht⟩
  clear hd hr hna hbs hl ht
  have tk : True := trivial
  go_enter Tryd.func40, Tryd.ntmps40
  go_upto_region 1 with (fail)
  obtain ⟨g, hg⟩ : ∃ g, w.heap.size = g := ⟨_, rfl⟩
  generalize w.alloc (.cells #[.int .i64 0, .int .i64 0, .int .i64 0] 74) = W at *
  rw [hg] at HP0 ⊢
  clear hg
  obtain ⟨⟨a0, q0⟩, ⟨a1, q1⟩, ⟨a2, q2⟩, z0, z1, z2⟩ := HP0.out.there
  go_wp2_with (first
    | (go_at_call 58; (with_reducible refine (uleb_rd rb ao len cap t bs _ HP0.out.rd HP0.out.row HB.out.1 (by have := HB.out.2.1; omega)).mono ?_); intro e w1 he; rw [hu] at he; (have he' : e = _ := he.1); subst he'; have HP1 : Hid _ := ⟨HP0.out.go he.2.1 he.2.2⟩; have o1 := HP1.out.rd.c2; clear he; obtain ⟨⟨a0, q0⟩, ⟨a1, q1⟩, ⟨a2, q2⟩, z0, z1, z2⟩ := HP1.out.there)
    | (go_at_call 57; (with_reducible refine (factor_no rb _ _ _ n _ HP1.out.rd hf).mono ?_); rintro e w2 ⟨m, he, he2, he3⟩; subst he; have HP2 : Hid _ := ⟨HP1.out.go he2 he3⟩; obtain ⟨⟨a0, q0⟩, ⟨a1, q1⟩, ⟨a2, q2⟩, z0, z1, z2⟩ := HP2.out.there))
  have P9 := HP2.out.put (.int .i64 (5)) (.int .i64 (c - 128)) (.int .i64 (m))
  refine bodyPost_ret (res_op Tryd.results40 _ _ g _ _ _ rfl P9.2.2.1 P9.2.2.2.1 P9.2.2.2.2) rfl ?_
  exact ⟨⟨5, c - 128, m⟩, _, rfl, P9.1, P9.2.1⟩

set_option maxHeartbeats 2000000 in
set_option maxRecDepth 10000 in
theorem op_mid_n (rb : Nat) (ao : Option Addr) (len cap t : Nat) (bs : Nat → Int) (c : Int) (w : World) (hd : RD w rb (.slice ao len cap) (t : Int) true) (hr : Row w ao len bs) (hna : 0 < len → ∀ b off, ao = some ⟨b, off, none⟩ → b ≠ rb) (hbs : ∀ i, 0 ≤ bs i ∧ bs i < 256) (hl : len ≤ 1048576) (ht : t ≤ len) (h1 : 128 ≤ c) (h2 : c < 192) (hu : uN len bs t = none) :
    Calls Tryd.prog 40 #[.pointer (some ⟨rb, 0, none⟩), .int .i64 c] w fun e w' => RO (none) w w' rb (.slice ao len cap) e := by
  have HP0 : Hid _ := ⟨rp_start hd hr hna⟩
  have HB : Hid ((∀ i, 0 ≤ bs i ∧ bs i < 256) ∧ len ≤ 1048576 ∧ t ≤ len) := ⟨hbs, hl, ht⟩
  clear hd hr hna hbs hl ht
  have tk : True := trivial
  go_enter Tryd.func40, Tryd.ntmps40
  go_upto_region 1 with (fail)
  obtain ⟨g, hg⟩ : ∃ g, w.heap.size = g := ⟨_, rfl⟩
  generalize w.alloc (.cells #[.int .i64 0, .int .i64 0, .int .i64 0] 74) = W at *
  rw [hg] at HP0 ⊢
  clear hg
  obtain ⟨⟨a0, q0⟩, ⟨a1, q1⟩, ⟨a2, q2⟩, z0, z1, z2⟩ := HP0.out.there
  go_wp2_with (first
    | (go_at_call 58; (with_reducible refine (uleb_rd rb ao len cap t bs _ HP0.out.rd HP0.out.row HB.out.1 (by have := HB.out.2.1; omega)).mono ?_); intro e w1 he; rw [hu] at he; (obtain ⟨n, e1, he1, he2, he3⟩ := he); subst he1; have HP1 : Hid _ := ⟨HP0.out.go he2 he3⟩; have o1 := HP1.out.rd.c2; obtain ⟨⟨a0, q0⟩, ⟨a1, q1⟩, ⟨a2, q2⟩, z0, z1, z2⟩ := HP1.out.there)
    | (go_at_call 57; (with_reducible refine (factor_false rb _ _ _ _ HP1.out.rd).mono ?_); rintro e w2 ⟨m, he, he2, he3⟩; subst he; have HP2 : Hid _ := ⟨HP1.out.go he2 he3⟩; obtain ⟨⟨a0, q0⟩, ⟨a1, q1⟩, ⟨a2, q2⟩, z0, z1, z2⟩ := HP2.out.there))
  have P9 := HP2.out.put (.int .i64 (5)) (.int .i64 (c - 128)) (.int .i64 (m))
  refine bodyPost_ret (res_op Tryd.results40 _ _ g _ _ _ rfl P9.2.2.1 P9.2.2.2.1 P9.2.2.2.2) rfl ?_
  exact ⟨⟨5, c - 128, m⟩, _, rfl, P9.1, P9.2.1⟩

set_option maxHeartbeats 2000000 in
set_option maxRecDepth 10000 in
theorem op_5_n (rb : Nat) (ao : Option Addr) (len cap t : Nat) (bs : Nat → Int) (w : World) (hd : RD w rb (.slice ao len cap) (t : Int) true) (hr : Row w ao len bs) (hna : 0 < len → ∀ b off, ao = some ⟨b, off, none⟩ → b ≠ rb) (hbs : ∀ i, 0 ≤ bs i ∧ bs i < 256) (hl : len ≤ 1048576) (ht : t ≤ len) (hu : uN len bs t = none) :
    Calls Tryd.prog 40 #[.pointer (some ⟨rb, 0, none⟩), .int .i64 5] w fun e w' => RO (none) w w' rb (.slice ao len cap) e := by
  have HP0 : Hid _ := ⟨rp_start hd hr hna⟩
  have HB : Hid ((∀ i, 0 ≤ bs i ∧ bs i < 256) ∧ len ≤ 1048576 ∧ t ≤ len) := ⟨hbs, hl, ht⟩
  clear hd hr hna hbs hl ht
  have tk : True := trivial
  go_enter Tryd.func40, Tryd.ntmps40
  go_upto_region 1 with (fail)
  obtain ⟨g, hg⟩ : ∃ g, w.heap.size = g := ⟨_, rfl⟩
  generalize w.alloc (.cells #[.int .i64 0, .int .i64 0, .int .i64 0] 74) = W at *
  rw [hg] at HP0 ⊢
  clear hg
  obtain ⟨⟨a0, q0⟩, ⟨a1, q1⟩, ⟨a2, q2⟩, z0, z1, z2⟩ := HP0.out.there
  go_wp2_with (go_at_call 58; (with_reducible refine (uleb_rd rb ao len cap t bs _ HP0.out.rd HP0.out.row HB.out.1 (by have := HB.out.2.1; omega)).mono ?_); intro e w1 he; rw [hu] at he; (obtain ⟨n, e1, he1, he2, he3⟩ := he); subst he1; have HP1 : Hid _ := ⟨HP0.out.go he2 he3⟩; have o1 := HP1.out.rd.c2; obtain ⟨⟨a0, q0⟩, ⟨a1, q1⟩, ⟨a2, q2⟩, z0, z1, z2⟩ := HP1.out.there)
  have P9 := HP1.out.put (.int .i64 (0)) (.int .i64 (0)) (.int .i64 (0))
  refine bodyPost_ret (res_op Tryd.results40 _ _ g _ _ _ rfl P9.2.2.1 P9.2.2.2.1 P9.2.2.2.2) rfl ?_
  exact ⟨⟨0, 0, 0⟩, _, rfl, P9.1, P9.2.1⟩

set_option maxHeartbeats 2000000 in
set_option maxRecDepth 10000 in
theorem op_5_s (rb : Nat) (ao : Option Addr) (len cap t : Nat) (bs : Nat → Int) (n n2 m : Int) (e1 e2 : Nat) (w : World) (hd : RD w rb (.slice ao len cap) (t : Int) true) (hr : Row w ao len bs) (hna : 0 < len → ∀ b off, ao = some ⟨b, off, none⟩ → b ≠ rb) (hbs : ∀ i, 0 ≤ bs i ∧ bs i < 256) (hl : len ≤ 1048576) (ht : t ≤ len) (hu : uN len bs t = some (n, e1)) (hv : uN len bs e1 = some (n2, e2)) (hf : facM n2 = some m) :
    Calls Tryd.prog 40 #[.pointer (some ⟨rb, 0, none⟩), .int .i64 5] w fun e w' => RO (some (⟨5, n, m⟩, e2)) w w' rb (.slice ao len cap) e := by
  have HP0 : Hid _ := ⟨rp_start hd hr hna⟩
  have HB : Hid ((∀ i, 0 ≤ bs i ∧ bs i < 256) ∧ len ≤ 1048576 ∧ t ≤ len) := ⟨hbs, hl, ht⟩
  clear hd hr hna hbs hl ht
  have tk : True := trivial
  go_enter Tryd.func40, Tryd.ntmps40
  go_upto_region 1 with (fail)
  obtain ⟨g, hg⟩ : ∃ g, w.heap.size = g := ⟨_, rfl⟩
  generalize w.alloc (.cells #[.int .i64 0, .int .i64 0, .int .i64 0] 74) = W at *
  rw [hg] at HP0 ⊢
  clear hg
  obtain ⟨⟨a0, q0⟩, ⟨a1, q1⟩, ⟨a2, q2⟩, z0, z1, z2⟩ := HP0.out.there
  go_wp2_with (first
    | (go_at_call 58; have _t := tk; (with_reducible refine (uleb_rd rb ao len cap t bs _ HP0.out.rd HP0.out.row HB.out.1 (by have := HB.out.2.1; omega)).mono ?_); intro e w1 he; rw [hu] at he; (have he' : e = _ := he.1); subst he'; have HP1 : Hid _ := ⟨HP0.out.go he.2.1 he.2.2⟩; have o1 := HP1.out.rd.c2; clear he; obtain ⟨⟨a0, q0⟩, ⟨a1, q1⟩, ⟨a2, q2⟩, z0, z1, z2⟩ := HP1.out.there; clear tk _t)
    | (go_at_call 58; (with_reducible refine (uleb_rd rb ao len cap e1 bs _ HP1.out.rd HP1.out.row HB.out.1 (by have := HB.out.2.1; omega)).mono ?_); intro e w2 he; rw [hv] at he; (have he' : e = _ := he.1); subst he'; have HP2 : Hid _ := ⟨HP1.out.go he.2.1 he.2.2⟩; have o2 := HP2.out.rd.c2; clear he; obtain ⟨⟨a0, q0⟩, ⟨a1, q1⟩, ⟨a2, q2⟩, z0, z1, z2⟩ := HP2.out.there)
    | (go_at_call 57; (with_reducible refine (factor_ok rb n2 m _ hf).mono ?_); rintro e wf ⟨he, hw⟩; subst he; subst wf))
  have P9 := HP2.out.put (.int .i64 (5)) (.int .i64 (n)) (.int .i64 (m))
  refine bodyPost_ret (res_op Tryd.results40 _ _ g _ _ _ rfl P9.2.2.1 P9.2.2.2.1 P9.2.2.2.2) rfl ?_
  exact ⟨rfl, P9.1, P9.2.1⟩

set_option maxHeartbeats 2000000 in
set_option maxRecDepth 10000 in
theorem op_5_f (rb : Nat) (ao : Option Addr) (len cap t : Nat) (bs : Nat → Int) (n n2 : Int) (e1 e2 : Nat) (w : World) (hd : RD w rb (.slice ao len cap) (t : Int) true) (hr : Row w ao len bs) (hna : 0 < len → ∀ b off, ao = some ⟨b, off, none⟩ → b ≠ rb) (hbs : ∀ i, 0 ≤ bs i ∧ bs i < 256) (hl : len ≤ 1048576) (ht : t ≤ len) (hu : uN len bs t = some (n, e1)) (hv : uN len bs e1 = some (n2, e2)) (hf : facM n2 = none) :
    Calls Tryd.prog 40 #[.pointer (some ⟨rb, 0, none⟩), .int .i64 5] w fun e w' => RO (none) w w' rb (.slice ao len cap) e := by
  have HP0 : Hid _ := ⟨rp_start hd hr hna⟩
  have HB : Hid ((∀ i, 0 ≤ bs i ∧ bs i < 256) ∧ len ≤ 1048576 ∧ t ≤ len) := ⟨hbs, hl, ht⟩
  clear hd hr hna hbs hl ht
  have tk : True := trivial
  go_enter Tryd.func40, Tryd.ntmps40
  go_upto_region 1 with (fail)
  obtain ⟨g, hg⟩ : ∃ g, w.heap.size = g := ⟨_, rfl⟩
  generalize w.alloc (.cells #[.int .i64 0, .int .i64 0, .int .i64 0] 74) = W at *
  rw [hg] at HP0 ⊢
  clear hg
  obtain ⟨⟨a0, q0⟩, ⟨a1, q1⟩, ⟨a2, q2⟩, z0, z1, z2⟩ := HP0.out.there
  go_wp2_with (first
    | (go_at_call 58; have _t := tk; (with_reducible refine (uleb_rd rb ao len cap t bs _ HP0.out.rd HP0.out.row HB.out.1 (by have := HB.out.2.1; omega)).mono ?_); intro e w1 he; rw [hu] at he; (have he' : e = _ := he.1); subst he'; have HP1 : Hid _ := ⟨HP0.out.go he.2.1 he.2.2⟩; have o1 := HP1.out.rd.c2; clear he; obtain ⟨⟨a0, q0⟩, ⟨a1, q1⟩, ⟨a2, q2⟩, z0, z1, z2⟩ := HP1.out.there; clear tk _t)
    | (go_at_call 58; (with_reducible refine (uleb_rd rb ao len cap e1 bs _ HP1.out.rd HP1.out.row HB.out.1 (by have := HB.out.2.1; omega)).mono ?_); intro e w2 he; rw [hv] at he; (have he' : e = _ := he.1); subst he'; have HP2 : Hid _ := ⟨HP1.out.go he.2.1 he.2.2⟩; have o2 := HP2.out.rd.c2; clear he; obtain ⟨⟨a0, q0⟩, ⟨a1, q1⟩, ⟨a2, q2⟩, z0, z1, z2⟩ := HP2.out.there)
    | (go_at_call 57; (with_reducible refine (factor_no rb _ _ _ n2 _ HP2.out.rd hf).mono ?_); rintro e w3 ⟨m, he, he2, he3⟩; subst he; have HP3 : Hid _ := ⟨HP2.out.go he2 he3⟩; obtain ⟨⟨a0, q0⟩, ⟨a1, q1⟩, ⟨a2, q2⟩, z0, z1, z2⟩ := HP3.out.there))
  have P9 := HP3.out.put (.int .i64 (5)) (.int .i64 (n)) (.int .i64 (m))
  refine bodyPost_ret (res_op Tryd.results40 _ _ g _ _ _ rfl P9.2.2.1 P9.2.2.2.1 P9.2.2.2.2) rfl ?_
  exact ⟨⟨5, n, m⟩, _, rfl, P9.1, P9.2.1⟩

set_option maxHeartbeats 2000000 in
set_option maxRecDepth 10000 in
theorem op_5_m (rb : Nat) (ao : Option Addr) (len cap t : Nat) (bs : Nat → Int) (n : Int) (e1 : Nat) (w : World) (hd : RD w rb (.slice ao len cap) (t : Int) true) (hr : Row w ao len bs) (hna : 0 < len → ∀ b off, ao = some ⟨b, off, none⟩ → b ≠ rb) (hbs : ∀ i, 0 ≤ bs i ∧ bs i < 256) (hl : len ≤ 1048576) (ht : t ≤ len) (hu : uN len bs t = some (n, e1)) (hv : uN len bs e1 = none) :
    Calls Tryd.prog 40 #[.pointer (some ⟨rb, 0, none⟩), .int .i64 5] w fun e w' => RO (none) w w' rb (.slice ao len cap) e := by
  have HP0 : Hid _ := ⟨rp_start hd hr hna⟩
  have HB : Hid ((∀ i, 0 ≤ bs i ∧ bs i < 256) ∧ len ≤ 1048576 ∧ t ≤ len) := ⟨hbs, hl, ht⟩
  clear hd hr hna hbs hl ht
  have tk : True := trivial
  go_enter Tryd.func40, Tryd.ntmps40
  go_upto_region 1 with (fail)
  obtain ⟨g, hg⟩ : ∃ g, w.heap.size = g := ⟨_, rfl⟩
  generalize w.alloc (.cells #[.int .i64 0, .int .i64 0, .int .i64 0] 74) = W at *
  rw [hg] at HP0 ⊢
  clear hg
  obtain ⟨⟨a0, q0⟩, ⟨a1, q1⟩, ⟨a2, q2⟩, z0, z1, z2⟩ := HP0.out.there
  go_wp2_with (first
    | (go_at_call 58; have _t := tk; (with_reducible refine (uleb_rd rb ao len cap t bs _ HP0.out.rd HP0.out.row HB.out.1 (by have := HB.out.2.1; omega)).mono ?_); intro e w1 he; rw [hu] at he; (have he' : e = _ := he.1); subst he'; have HP1 : Hid _ := ⟨HP0.out.go he.2.1 he.2.2⟩; have o1 := HP1.out.rd.c2; clear he; obtain ⟨⟨a0, q0⟩, ⟨a1, q1⟩, ⟨a2, q2⟩, z0, z1, z2⟩ := HP1.out.there; clear tk _t)
    | (go_at_call 58; (with_reducible refine (uleb_rd rb ao len cap e1 bs _ HP1.out.rd HP1.out.row HB.out.1 (by have := HB.out.2.1; omega)).mono ?_); intro e w2 he; rw [hv] at he; (obtain ⟨n2, e2, he1, he2, he3⟩ := he); subst he1; have HP2 : Hid _ := ⟨HP1.out.go he2 he3⟩; have o2 := HP2.out.rd.c2; obtain ⟨⟨a0, q0⟩, ⟨a1, q1⟩, ⟨a2, q2⟩, z0, z1, z2⟩ := HP2.out.there)
    | (go_at_call 57; (with_reducible refine (factor_false rb _ _ _ _ HP2.out.rd).mono ?_); rintro e w3 ⟨m, he, he2, he3⟩; subst he; have HP3 : Hid _ := ⟨HP2.out.go he2 he3⟩; obtain ⟨⟨a0, q0⟩, ⟨a1, q1⟩, ⟨a2, q2⟩, z0, z1, z2⟩ := HP3.out.there))
  have P9 := HP3.out.put (.int .i64 (5)) (.int .i64 (n)) (.int .i64 (m))
  refine bodyPost_ret (res_op Tryd.results40 _ _ g _ _ _ rfl P9.2.2.1 P9.2.2.2.1 P9.2.2.2.2) rfl ?_
  exact ⟨⟨5, n, m⟩, _, rfl, P9.1, P9.2.1⟩

set_option maxHeartbeats 2000000 in
set_option maxRecDepth 10000 in
theorem op_12_n (rb : Nat) (ao : Option Addr) (len cap t : Nat) (bs : Nat → Int) (w : World) (hd : RD w rb (.slice ao len cap) (t : Int) true) (hr : Row w ao len bs) (hna : 0 < len → ∀ b off, ao = some ⟨b, off, none⟩ → b ≠ rb) (hbs : ∀ i, 0 ≤ bs i ∧ bs i < 256) (hl : len ≤ 1048576) (ht : t ≤ len) (hu : uN len bs t = none) :
    Calls Tryd.prog 40 #[.pointer (some ⟨rb, 0, none⟩), .int .i64 12] w fun e w' => RO (none) w w' rb (.slice ao len cap) e := by
  have HP0 : Hid _ := ⟨rp_start hd hr hna⟩
  have HB : Hid ((∀ i, 0 ≤ bs i ∧ bs i < 256) ∧ len ≤ 1048576 ∧ t ≤ len) := ⟨hbs, hl, ht⟩
  clear hd hr hna hbs hl ht
  have tk : True := trivial
  go_enter Tryd.func40, Tryd.ntmps40
  go_upto_region 1 with (fail)
  obtain ⟨g, hg⟩ : ∃ g, w.heap.size = g := ⟨_, rfl⟩
  generalize w.alloc (.cells #[.int .i64 0, .int .i64 0, .int .i64 0] 74) = W at *
  rw [hg] at HP0 ⊢
  clear hg
  obtain ⟨⟨a0, q0⟩, ⟨a1, q1⟩, ⟨a2, q2⟩, z0, z1, z2⟩ := HP0.out.there
  go_wp2_with (go_at_call 58; (with_reducible refine (uleb_rd rb ao len cap t bs _ HP0.out.rd HP0.out.row HB.out.1 (by have := HB.out.2.1; omega)).mono ?_); intro e w1 he; rw [hu] at he; (obtain ⟨n, e1, he1, he2, he3⟩ := he); subst he1; have HP1 : Hid _ := ⟨HP0.out.go he2 he3⟩; have o1 := HP1.out.rd.c2; obtain ⟨⟨a0, q0⟩, ⟨a1, q1⟩, ⟨a2, q2⟩, z0, z1, z2⟩ := HP1.out.there)
  have P9 := HP1.out.put (.int .i64 (0)) (.int .i64 (0)) (.int .i64 (0))
  refine bodyPost_ret (res_op Tryd.results40 _ _ g _ _ _ rfl P9.2.2.1 P9.2.2.2.1 P9.2.2.2.2) rfl ?_
  exact ⟨⟨0, 0, 0⟩, _, rfl, P9.1, P9.2.1⟩

set_option maxHeartbeats 2000000 in
set_option maxRecDepth 10000 in
theorem op_12_s (rb : Nat) (ao : Option Addr) (len cap t : Nat) (bs : Nat → Int) (n n2 : Int) (e1 e2 : Nat) (w : World) (hd : RD w rb (.slice ao len cap) (t : Int) true) (hr : Row w ao len bs) (hna : 0 < len → ∀ b off, ao = some ⟨b, off, none⟩ → b ≠ rb) (hbs : ∀ i, 0 ≤ bs i ∧ bs i < 256) (hl : len ≤ 1048576) (ht : t ≤ len) (hu : uN len bs t = some (n, e1)) (hv : uN len bs e1 = some (n2, e2)) :
    Calls Tryd.prog 40 #[.pointer (some ⟨rb, 0, none⟩), .int .i64 12] w fun e w' => RO (some (⟨2, n, n2⟩, e2)) w w' rb (.slice ao len cap) e := by
  have HP0 : Hid _ := ⟨rp_start hd hr hna⟩
  have HB : Hid ((∀ i, 0 ≤ bs i ∧ bs i < 256) ∧ len ≤ 1048576 ∧ t ≤ len) := ⟨hbs, hl, ht⟩
  clear hd hr hna hbs hl ht
  have tk : True := trivial
  go_enter Tryd.func40, Tryd.ntmps40
  go_upto_region 1 with (fail)
  obtain ⟨g, hg⟩ : ∃ g, w.heap.size = g := ⟨_, rfl⟩
  generalize w.alloc (.cells #[.int .i64 0, .int .i64 0, .int .i64 0] 74) = W at *
  rw [hg] at HP0 ⊢
  clear hg
  obtain ⟨⟨a0, q0⟩, ⟨a1, q1⟩, ⟨a2, q2⟩, z0, z1, z2⟩ := HP0.out.there
  go_wp2_with (first
    | (go_at_call 58; have _t := tk; (with_reducible refine (uleb_rd rb ao len cap t bs _ HP0.out.rd HP0.out.row HB.out.1 (by have := HB.out.2.1; omega)).mono ?_); intro e w1 he; rw [hu] at he; (have he' : e = _ := he.1); subst he'; have HP1 : Hid _ := ⟨HP0.out.go he.2.1 he.2.2⟩; have o1 := HP1.out.rd.c2; clear he; obtain ⟨⟨a0, q0⟩, ⟨a1, q1⟩, ⟨a2, q2⟩, z0, z1, z2⟩ := HP1.out.there; clear tk _t)
    | (go_at_call 58; (with_reducible refine (uleb_rd rb ao len cap e1 bs _ HP1.out.rd HP1.out.row HB.out.1 (by have := HB.out.2.1; omega)).mono ?_); intro e w2 he; rw [hv] at he; (have he' : e = _ := he.1); subst he'; have HP2 : Hid _ := ⟨HP1.out.go he.2.1 he.2.2⟩; have o2 := HP2.out.rd.c2; clear he; obtain ⟨⟨a0, q0⟩, ⟨a1, q1⟩, ⟨a2, q2⟩, z0, z1, z2⟩ := HP2.out.there))
  have P9 := HP2.out.put (.int .i64 (2)) (.int .i64 (n)) (.int .i64 (n2))
  refine bodyPost_ret (res_op Tryd.results40 _ _ g _ _ _ rfl P9.2.2.1 P9.2.2.2.1 P9.2.2.2.2) rfl ?_
  exact ⟨rfl, P9.1, P9.2.1⟩

set_option maxHeartbeats 2000000 in
set_option maxRecDepth 10000 in
theorem op_12_m (rb : Nat) (ao : Option Addr) (len cap t : Nat) (bs : Nat → Int) (n : Int) (e1 : Nat) (w : World) (hd : RD w rb (.slice ao len cap) (t : Int) true) (hr : Row w ao len bs) (hna : 0 < len → ∀ b off, ao = some ⟨b, off, none⟩ → b ≠ rb) (hbs : ∀ i, 0 ≤ bs i ∧ bs i < 256) (hl : len ≤ 1048576) (ht : t ≤ len) (hu : uN len bs t = some (n, e1)) (hv : uN len bs e1 = none) :
    Calls Tryd.prog 40 #[.pointer (some ⟨rb, 0, none⟩), .int .i64 12] w fun e w' => RO (none) w w' rb (.slice ao len cap) e := by
  have HP0 : Hid _ := ⟨rp_start hd hr hna⟩
  have HB : Hid ((∀ i, 0 ≤ bs i ∧ bs i < 256) ∧ len ≤ 1048576 ∧ t ≤ len) := ⟨hbs, hl, ht⟩
  clear hd hr hna hbs hl ht
  have tk : True := trivial
  go_enter Tryd.func40, Tryd.ntmps40
  go_upto_region 1 with (fail)
  obtain ⟨g, hg⟩ : ∃ g, w.heap.size = g := ⟨_, rfl⟩
  generalize w.alloc (.cells #[.int .i64 0, .int .i64 0, .int .i64 0] 74) = W at *
  rw [hg] at HP0 ⊢
  clear hg
  obtain ⟨⟨a0, q0⟩, ⟨a1, q1⟩, ⟨a2, q2⟩, z0, z1, z2⟩ := HP0.out.there
  go_wp2_with (first
    | (go_at_call 58; have _t := tk; (with_reducible refine (uleb_rd rb ao len cap t bs _ HP0.out.rd HP0.out.row HB.out.1 (by have := HB.out.2.1; omega)).mono ?_); intro e w1 he; rw [hu] at he; (have he' : e = _ := he.1); subst he'; have HP1 : Hid _ := ⟨HP0.out.go he.2.1 he.2.2⟩; have o1 := HP1.out.rd.c2; clear he; obtain ⟨⟨a0, q0⟩, ⟨a1, q1⟩, ⟨a2, q2⟩, z0, z1, z2⟩ := HP1.out.there; clear tk _t)
    | (go_at_call 58; (with_reducible refine (uleb_rd rb ao len cap e1 bs _ HP1.out.rd HP1.out.row HB.out.1 (by have := HB.out.2.1; omega)).mono ?_); intro e w2 he; rw [hv] at he; (obtain ⟨n2, e2, he1, he2, he3⟩ := he); subst he1; have HP2 : Hid _ := ⟨HP1.out.go he2 he3⟩; have o2 := HP2.out.rd.c2; obtain ⟨⟨a0, q0⟩, ⟨a1, q1⟩, ⟨a2, q2⟩, z0, z1, z2⟩ := HP2.out.there))
  have P9 := HP2.out.put (.int .i64 (2)) (.int .i64 (n)) (.int .i64 (n2))
  refine bodyPost_ret (res_op Tryd.results40 _ _ g _ _ _ rfl P9.2.2.1 P9.2.2.2.1 P9.2.2.2.2) rfl ?_
  exact ⟨⟨2, n, n2⟩, _, rfl, P9.1, P9.2.1⟩

set_option maxHeartbeats 2000000 in
set_option maxRecDepth 10000 in
theorem op_17_n (rb : Nat) (ao : Option Addr) (len cap t : Nat) (bs : Nat → Int) (w : World) (hd : RD w rb (.slice ao len cap) (t : Int) true) (hr : Row w ao len bs) (hna : 0 < len → ∀ b off, ao = some ⟨b, off, none⟩ → b ≠ rb) (hbs : ∀ i, 0 ≤ bs i ∧ bs i < 256) (hl : len ≤ 1048576) (ht : t ≤ len) (hu : uN len bs t = none) :
    Calls Tryd.prog 40 #[.pointer (some ⟨rb, 0, none⟩), .int .i64 17] w fun e w' => RO (none) w w' rb (.slice ao len cap) e := by
  have HP0 : Hid _ := ⟨rp_start hd hr hna⟩
  have HB : Hid ((∀ i, 0 ≤ bs i ∧ bs i < 256) ∧ len ≤ 1048576 ∧ t ≤ len) := ⟨hbs, hl, ht⟩
  clear hd hr hna hbs hl ht
  have tk : True := trivial
  go_enter Tryd.func40, Tryd.ntmps40
  go_upto_region 1 with (fail)
  obtain ⟨g, hg⟩ : ∃ g, w.heap.size = g := ⟨_, rfl⟩
  generalize w.alloc (.cells #[.int .i64 0, .int .i64 0, .int .i64 0] 74) = W at *
  rw [hg] at HP0 ⊢
  clear hg
  obtain ⟨⟨a0, q0⟩, ⟨a1, q1⟩, ⟨a2, q2⟩, z0, z1, z2⟩ := HP0.out.there
  go_wp2_with (go_at_call 58; (with_reducible refine (uleb_rd rb ao len cap t bs _ HP0.out.rd HP0.out.row HB.out.1 (by have := HB.out.2.1; omega)).mono ?_); intro e w1 he; rw [hu] at he; (obtain ⟨n, e1, he1, he2, he3⟩ := he); subst he1; have HP1 : Hid _ := ⟨HP0.out.go he2 he3⟩; have o1 := HP1.out.rd.c2; obtain ⟨⟨a0, q0⟩, ⟨a1, q1⟩, ⟨a2, q2⟩, z0, z1, z2⟩ := HP1.out.there)
  have P9 := HP1.out.put (.int .i64 (0)) (.int .i64 (0)) (.int .i64 (0))
  refine bodyPost_ret (res_op Tryd.results40 _ _ g _ _ _ rfl P9.2.2.1 P9.2.2.2.1 P9.2.2.2.2) rfl ?_
  exact ⟨⟨0, 0, 0⟩, _, rfl, P9.1, P9.2.1⟩

set_option maxHeartbeats 2000000 in
set_option maxRecDepth 10000 in
theorem op_17_s (rb : Nat) (ao : Option Addr) (len cap t : Nat) (bs : Nat → Int) (n n2 m : Int) (e1 e2 : Nat) (w : World) (hd : RD w rb (.slice ao len cap) (t : Int) true) (hr : Row w ao len bs) (hna : 0 < len → ∀ b off, ao = some ⟨b, off, none⟩ → b ≠ rb) (hbs : ∀ i, 0 ≤ bs i ∧ bs i < 256) (hl : len ≤ 1048576) (ht : t ≤ len) (hu : uN len bs t = some (n, e1)) (hv : sR len bs e1 = some (n2, e2)) (hf : facM n2 = some m) :
    Calls Tryd.prog 40 #[.pointer (some ⟨rb, 0, none⟩), .int .i64 17] w fun e w' => RO (some (⟨5, n, m⟩, e2)) w w' rb (.slice ao len cap) e := by
  have HP0 : Hid _ := ⟨rp_start hd hr hna⟩
  have HB : Hid ((∀ i, 0 ≤ bs i ∧ bs i < 256) ∧ len ≤ 1048576 ∧ t ≤ len) := ⟨hbs, hl, ht⟩
  clear hd hr hna hbs hl ht
  have tk : True := trivial
  go_enter Tryd.func40, Tryd.ntmps40
  go_upto_region 1 with (fail)
  obtain ⟨g, hg⟩ : ∃ g, w.heap.size = g := ⟨_, rfl⟩
  generalize w.alloc (.cells #[.int .i64 0, .int .i64 0, .int .i64 0] 74) = W at *
  rw [hg] at HP0 ⊢
  clear hg
  obtain ⟨⟨a0, q0⟩, ⟨a1, q1⟩, ⟨a2, q2⟩, z0, z1, z2⟩ := HP0.out.there
  go_wp2_with (first
    | (go_at_call 58; have _t := tk; (with_reducible refine (uleb_rd rb ao len cap t bs _ HP0.out.rd HP0.out.row HB.out.1 (by have := HB.out.2.1; omega)).mono ?_); intro e w1 he; rw [hu] at he; (have he' : e = _ := he.1); subst he'; have HP1 : Hid _ := ⟨HP0.out.go he.2.1 he.2.2⟩; have o1 := HP1.out.rd.c2; clear he; obtain ⟨⟨a0, q0⟩, ⟨a1, q1⟩, ⟨a2, q2⟩, z0, z1, z2⟩ := HP1.out.there; clear tk _t)
    | (go_at_call 60; (with_reducible refine (sleb_rd rb ao len cap e1 bs _ HP1.out.rd HP1.out.row HB.out.1 (by have := HB.out.2.1; omega)).mono ?_); intro e w2 he; rw [hv] at he; (have he' : e = _ := he.1); subst he'; have HP2 : Hid _ := ⟨HP1.out.go he.2.1 he.2.2⟩; have o2 := HP2.out.rd.c2; clear he; obtain ⟨⟨a0, q0⟩, ⟨a1, q1⟩, ⟨a2, q2⟩, z0, z1, z2⟩ := HP2.out.there)
    | (go_at_call 57; (with_reducible refine (factor_ok rb n2 m _ hf).mono ?_); rintro e wf ⟨he, hw⟩; subst he; subst wf))
  have P9 := HP2.out.put (.int .i64 (5)) (.int .i64 (n)) (.int .i64 (m))
  refine bodyPost_ret (res_op Tryd.results40 _ _ g _ _ _ rfl P9.2.2.1 P9.2.2.2.1 P9.2.2.2.2) rfl ?_
  exact ⟨rfl, P9.1, P9.2.1⟩

set_option maxHeartbeats 2000000 in
set_option maxRecDepth 10000 in
theorem op_17_f (rb : Nat) (ao : Option Addr) (len cap t : Nat) (bs : Nat → Int) (n n2 : Int) (e1 e2 : Nat) (w : World) (hd : RD w rb (.slice ao len cap) (t : Int) true) (hr : Row w ao len bs) (hna : 0 < len → ∀ b off, ao = some ⟨b, off, none⟩ → b ≠ rb) (hbs : ∀ i, 0 ≤ bs i ∧ bs i < 256) (hl : len ≤ 1048576) (ht : t ≤ len) (hu : uN len bs t = some (n, e1)) (hv : sR len bs e1 = some (n2, e2)) (hf : facM n2 = none) :
    Calls Tryd.prog 40 #[.pointer (some ⟨rb, 0, none⟩), .int .i64 17] w fun e w' => RO (none) w w' rb (.slice ao len cap) e := by
  have HP0 : Hid _ := ⟨rp_start hd hr hna⟩
  have HB : Hid ((∀ i, 0 ≤ bs i ∧ bs i < 256) ∧ len ≤ 1048576 ∧ t ≤ len) := ⟨hbs, hl, ht⟩
  clear hd hr hna hbs hl ht
  have tk : True := trivial
  go_enter Tryd.func40, Tryd.ntmps40
  go_upto_region 1 with (fail)
  obtain ⟨g, hg⟩ : ∃ g, w.heap.size = g := ⟨_, rfl⟩
  generalize w.alloc (.cells #[.int .i64 0, .int .i64 0, .int .i64 0] 74) = W at *
  rw [hg] at HP0 ⊢
  clear hg
  obtain ⟨⟨a0, q0⟩, ⟨a1, q1⟩, ⟨a2, q2⟩, z0, z1, z2⟩ := HP0.out.there
  go_wp2_with (first
    | (go_at_call 58; have _t := tk; (with_reducible refine (uleb_rd rb ao len cap t bs _ HP0.out.rd HP0.out.row HB.out.1 (by have := HB.out.2.1; omega)).mono ?_); intro e w1 he; rw [hu] at he; (have he' : e = _ := he.1); subst he'; have HP1 : Hid _ := ⟨HP0.out.go he.2.1 he.2.2⟩; have o1 := HP1.out.rd.c2; clear he; obtain ⟨⟨a0, q0⟩, ⟨a1, q1⟩, ⟨a2, q2⟩, z0, z1, z2⟩ := HP1.out.there; clear tk _t)
    | (go_at_call 60; (with_reducible refine (sleb_rd rb ao len cap e1 bs _ HP1.out.rd HP1.out.row HB.out.1 (by have := HB.out.2.1; omega)).mono ?_); intro e w2 he; rw [hv] at he; (have he' : e = _ := he.1); subst he'; have HP2 : Hid _ := ⟨HP1.out.go he.2.1 he.2.2⟩; have o2 := HP2.out.rd.c2; clear he; obtain ⟨⟨a0, q0⟩, ⟨a1, q1⟩, ⟨a2, q2⟩, z0, z1, z2⟩ := HP2.out.there)
    | (go_at_call 57; (with_reducible refine (factor_no rb _ _ _ n2 _ HP2.out.rd hf).mono ?_); rintro e w3 ⟨m, he, he2, he3⟩; subst he; have HP3 : Hid _ := ⟨HP2.out.go he2 he3⟩; obtain ⟨⟨a0, q0⟩, ⟨a1, q1⟩, ⟨a2, q2⟩, z0, z1, z2⟩ := HP3.out.there))
  have P9 := HP3.out.put (.int .i64 (5)) (.int .i64 (n)) (.int .i64 (m))
  refine bodyPost_ret (res_op Tryd.results40 _ _ g _ _ _ rfl P9.2.2.1 P9.2.2.2.1 P9.2.2.2.2) rfl ?_
  exact ⟨⟨5, n, m⟩, _, rfl, P9.1, P9.2.1⟩

set_option maxHeartbeats 2000000 in
set_option maxRecDepth 10000 in
theorem op_17_m (rb : Nat) (ao : Option Addr) (len cap t : Nat) (bs : Nat → Int) (n : Int) (e1 : Nat) (w : World) (hd : RD w rb (.slice ao len cap) (t : Int) true) (hr : Row w ao len bs) (hna : 0 < len → ∀ b off, ao = some ⟨b, off, none⟩ → b ≠ rb) (hbs : ∀ i, 0 ≤ bs i ∧ bs i < 256) (hl : len ≤ 1048576) (ht : t ≤ len) (hu : uN len bs t = some (n, e1)) (hv : sR len bs e1 = none) :
    Calls Tryd.prog 40 #[.pointer (some ⟨rb, 0, none⟩), .int .i64 17] w fun e w' => RO (none) w w' rb (.slice ao len cap) e := by
  have HP0 : Hid _ := ⟨rp_start hd hr hna⟩
  have HB : Hid ((∀ i, 0 ≤ bs i ∧ bs i < 256) ∧ len ≤ 1048576 ∧ t ≤ len) := ⟨hbs, hl, ht⟩
  clear hd hr hna hbs hl ht
  have tk : True := trivial
  go_enter Tryd.func40, Tryd.ntmps40
  go_upto_region 1 with (fail)
  obtain ⟨g, hg⟩ : ∃ g, w.heap.size = g := ⟨_, rfl⟩
  generalize w.alloc (.cells #[.int .i64 0, .int .i64 0, .int .i64 0] 74) = W at *
  rw [hg] at HP0 ⊢
  clear hg
  obtain ⟨⟨a0, q0⟩, ⟨a1, q1⟩, ⟨a2, q2⟩, z0, z1, z2⟩ := HP0.out.there
  go_wp2_with (first
    | (go_at_call 58; have _t := tk; (with_reducible refine (uleb_rd rb ao len cap t bs _ HP0.out.rd HP0.out.row HB.out.1 (by have := HB.out.2.1; omega)).mono ?_); intro e w1 he; rw [hu] at he; (have he' : e = _ := he.1); subst he'; have HP1 : Hid _ := ⟨HP0.out.go he.2.1 he.2.2⟩; have o1 := HP1.out.rd.c2; clear he; obtain ⟨⟨a0, q0⟩, ⟨a1, q1⟩, ⟨a2, q2⟩, z0, z1, z2⟩ := HP1.out.there; clear tk _t)
    | (go_at_call 60; (with_reducible refine (sleb_rd rb ao len cap e1 bs _ HP1.out.rd HP1.out.row HB.out.1 (by have := HB.out.2.1; omega)).mono ?_); intro e w2 he; rw [hv] at he; (obtain ⟨n2, e2, he1, he2, he3⟩ := he); subst he1; have HP2 : Hid _ := ⟨HP1.out.go he2 he3⟩; have o2 := HP2.out.rd.c2; obtain ⟨⟨a0, q0⟩, ⟨a1, q1⟩, ⟨a2, q2⟩, z0, z1, z2⟩ := HP2.out.there)
    | (go_at_call 57; (with_reducible refine (factor_false rb _ _ _ _ HP2.out.rd).mono ?_); rintro e w3 ⟨m, he, he2, he3⟩; subst he; have HP3 : Hid _ := ⟨HP2.out.go he2 he3⟩; obtain ⟨⟨a0, q0⟩, ⟨a1, q1⟩, ⟨a2, q2⟩, z0, z1, z2⟩ := HP3.out.there))
  have P9 := HP3.out.put (.int .i64 (5)) (.int .i64 (n)) (.int .i64 (m))
  refine bodyPost_ret (res_op Tryd.results40 _ _ g _ _ _ rfl P9.2.2.1 P9.2.2.2.1 P9.2.2.2.2) rfl ?_
  exact ⟨⟨5, n, m⟩, _, rfl, P9.1, P9.2.1⟩
end Go.Proofs.YtgldijohpfihaaaDoor

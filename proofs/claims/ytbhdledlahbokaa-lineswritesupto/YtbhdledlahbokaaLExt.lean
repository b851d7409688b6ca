/- Commands behind a byte 0. -/
import Derived.Test.YtbhdledlahbokaaLSend
namespace Go.Proofs.Ytbhdledlahbokaa
open Go.ChangeShapes Go.WideShapes Go.ChangeAt Go.RowKit
set_option linter.unusedVariables false
set_option linter.unusedSimpArgs false

theorem lst_gd (xs : List Int) : lst (fun i => xs.getD i 0) xs.length = xs := by
  apply List.ext_getElem
  · rw [lst_len]
  · intro i h1 h2
    simp [lst, h2]
theorem Bt.conv {w : World} {v : Value} {xs : List Int} (h : Bt w v xs) : Sem.run Try.prog (convert 30 9 v) w = .ok (.string (strOfNums xs)) w := by
  obtain ⟨ao, cap, rfl, hr, hn⟩ := h
  have := conv_row w ao xs.length cap _ hr (fun e => (hn e).1)
  rwa [lst_gd] at this
theorem equal_any {w : World} {u v : Value} {xs ys : List Int} (h1 : Bt w u xs) (h2 : Bt w v ys) (b : Bool) (hb : ((strOfNums xs).toList == (strOfNums ys).toList) = b) :
    Calls Try.prog 50 #[u, v] w fun e w' => e = .returned (.bool b) ∧ w' = w := by
  have k1 := h1.conv
  have k2 := h2.conv
  clear h1 h2
  generalize strOfNums xs = s1 at *
  generalize strOfNums ys = s2 at *
  go_enter Try.func50, Try.ntmps50
  go_wp2
  go_ret
  exact ⟨rfl, rfl⟩
/-- Three bytes from a place on. -/
theorem bt_three {w : World} {g off n c : Nat} {bs : Nat → Int} (h : ∀ i, i < 3 → w.cell? ⟨g, off + i, none⟩ = some (.int .u8 (bs i))) : Bt w (.slice (some ⟨g, off, none⟩) 3 c) [bs 0, bs 1, bs 2] :=
  ⟨some ⟨g, off, none⟩, c, rfl, .inr ⟨g, off, rfl, fun i hi => by
    have hi' : i < 3 := hi
    rw [h i hi']
    rcases i with _ | _ | _ | i <;> first | rfl | omega⟩, fun e => by cases e⟩
theorem hasPrefix_any (g off n c : Nat) (bs : Nat → Int) (w : World) (h : ∀ i, i < 3 → w.cell? ⟨g, off + i, none⟩ = some (.int .u8 (bs i))) (h3 : 3 ≤ n) (hn : n ≤ c) (hc : c ≤ 9223372036854775807) (v : Value) (ao : Option Addr) (cc : Nat) (hv : v = .slice ao 3 cc) (x y z : Int) (hB : Bt w v [x, y, z]) (b : Bool) (hb : ((strOfNums [bs 0, bs 1, bs 2]).toList == (strOfNums [x, y, z]).toList) = b) :
    Calls Try.prog 90 #[.slice (some ⟨g, off, none⟩) n c, v] w fun e w' => e = .returned (.bool b) ∧ w' = w := by
  have HE : Hid _ := ⟨equal_any (bt_three (n := n) (c := c) h) hB b hb⟩
  subst hv
  have i1 : (3 : Int) ≤ (n : Int) := by omega
  have i2 : 3 ≤ c := by omega
  clear h hB hb
  go_enter Try.func90, Try.ntmps90
  go_wp2_with (go_at_call 50; (with_reducible refine HE.out.mono ?_); rintro e wn ⟨he, hwn⟩; subst he; subst wn)
  go_ret
  exact ⟨rfl, rfl⟩

theorem lit3 (w : World) (x y z : Int) : Bt (w.alloc (.cells #[.int .u8 x, .int .u8 y, .int .u8 z] 5 (3, 4))) (.slice (some ⟨w.heap.size, 0, none⟩) 3 3) [x, y, z] :=
  ⟨some ⟨w.heap.size, 0, none⟩, 3, rfl, .inr ⟨w.heap.size, 0, rfl, fun i hi => by
    have hi' : i < 3 := hi
    have h1 := heap_alloc_new w (.cells #[.int .u8 x, .int .u8 y, .int .u8 z] 5 (3, 4))
    simp only [World.cell?, h1]
    rcases i with _ | _ | _ | i <;> first | rfl | omega⟩, fun e => by cases e⟩
section
variable {base : Nat × Nat} {w0 w : World} {sb c : Nat} {g off len cp : Nat} {bs : Nat → Int} {m : Ms} {cap : Nat}
theorem By.three (hB : By base w0 (some ⟨g, off, none⟩) len cp bs) {a : Nat} (ha : a + 3 ≤ len) (W : World) (hW : Fr base w0 W) : ∀ i, i < 3 → W.cell? ⟨g, off + a + i, none⟩ = some (.int .u8 (bs (a + i))) := by
  intro i hi
  rcases hB.row W hW with h | ⟨b, o, e, h⟩
  · omega
  · cases e
    have := h (a + i) (by omega)
    rwa [← Nat.add_assoc] at this

theorem w64_id {x : Int} (h : -9223372036854775808 ≤ x ∧ x ≤ 9223372036854775807) : wrap64 x = x := by unfold wrap64; omega
theorem w64_two (a : Nat) (h : a ≤ 1048576) : wrap64 (((a + 1 : Nat) : Int) + 2) = ((a + 3 : Nat) : Int) ∧ wrap64 (((a + 1 : Nat) : Int) - 1) = (a : Int) := by
  rw [w64_id (by omega), w64_id (by omega)]; omega
theorem prefix_at (hB : By base w0 (some ⟨g, off, none⟩) len cp bs) {a : Nat} (hin : a + 3 ≤ len) (p q r x y z : Int) (h0 : bs (a + 0) = p) (h1 : bs (a + 1) = q) (h2 : bs (a + 2) = r) (b : Bool) (hb : ((strOfNums [p, q, r]).toList == (strOfNums [x, y, z]).toList) = b) (W : World) (hW : Fr base w0 W) :
    Calls Try.prog 90 #[.slice (some ⟨g, off + a, none⟩) (len - a) (cp - a), .slice (some ⟨W.heap.size, 0, none⟩) 3 3] (W.alloc (.cells #[.int .u8 x, .int .u8 y, .int .u8 z] 5 (3, 4))) fun e w' => e = .returned (.bool b) ∧ w' = W.alloc (.cells #[.int .u8 x, .int .u8 y, .int .u8 z] 5 (3, 4)) := by
  have hfit := hB.fit
  have htop := hB.top
  refine hasPrefix_any g (off + a) (len - a) (cp - a) (fun i => bs (a + i)) _ (fun i hi => Lib.cell?_alloc_marked _ (hB.three hin W hW i hi)) (by omega) (by omega) (by omega) _ _ _ rfl x y z (lit3 W x y z) b ?_
  show ((strOfNums [bs (a + 0), bs (a + 1), bs (a + 2)]).toList == (strOfNums [x, y, z]).toList) = b
  rw [h0, h1, h2]
  exact hb
theorem cmp_fin : ((strOfNums [0, 1, 1]).toList == (strOfNums [0, 1, 1]).toList) = true := by simp
theorem cmp_beg : ((strOfNums [0, 9, 2]).toList == (strOfNums [0, 1, 1]).toList) = false := by rw [ByteArray.toList_eq, ByteArray.toList_eq]; decide
theorem cmp_beg2 : ((strOfNums [0, 9, 2]).toList == (strOfNums [0, 9, 2]).toList) = true := by simp

set_option maxHeartbeats 2000000 in
theorem extended_fin (h : SA base w0 w sb c (.slice (some ⟨g, off, none⟩) len cp) m cap) (hB : By base w0 (some ⟨g, off, none⟩) len cp bs) {a : Nat} (ha : m.at' = a + 1) (hat : At bs a [0, 1, 1]) (hin : a + 3 ≤ len) (hr : 0 ≤ m.seqs ∧ m.seqs < 64) (hroom : m.evs.length < cap) :
    Calls Try.prog 79 #[.pointer (some ⟨sb, 0, none⟩)] w fun e w' => e = .returned (.bool true) ∧ SA base w0 w' sb c (.slice (some ⟨g, off, none⟩) len cp) { m with at' := a + 3, seqs := m.seqs + 1, ended := true, evs := m.evs ++ [.fin m.start m.row.at'] } cap := by
  have hb0 : bs (a + 0) = 0 := hat 0 (by simp)
  have hb1 : bs (a + 1) = 1 := hat 1 (by simp)
  have hb2 : bs (a + 2) = 1 := hat 2 (by simp)
  have hsh := hB.short
  have hfit := hB.fit
  have htop := hB.top
  have HP : Hid _ := ⟨prefix_at hB hin 0 1 1 0 1 1 hb0 hb1 hb2 true cmp_fin⟩
  have hcv := fun (w : World) (C : Array Value) (n c : Nat) => Lib.run_convert_bytes_const (P := Try.prog) w 30 5 C n c Try.underlying30 Try.underlying5
  have HS : Hid _ := ⟨h⟩
  have HEn : Hid (∀ W, SA base w0 W sb c (.slice (some ⟨g, off, none⟩) len cp) { m with at' := a + 3 } cap → Calls Try.prog 91 #[.pointer (some ⟨sb, 0, none⟩)] W fun e w' => e = .returned (.bool true) ∧ SA base w0 w' sb c (.slice (some ⟨g, off, none⟩) len cp) { m with at' := a + 3, seqs := m.seqs + 1, ended := true, evs := m.evs ++ [.fin m.start m.row.at'] } cap) := ⟨fun W hW => end_ok hW hr hroom⟩
  have d0 := h.c0
  have d1 := h.c1
  rw [ha] at d1
  clear h hB hat hb0 hb1 hb2 hr hroom htop
  have i2 : a ≤ len := by omega
  obtain ⟨hT, hT1⟩ := w64_two a (by omega)
  have i0 : (0 : Int) ≤ (a : Int) := by omega
  have i1 : (a : Int) ≤ (len : Int) := by omega
  have i3 : len ≤ cp := hfit
  have i4 : a < cp := by omega
  clear hin hsh
  generalize a + 1 = T1 at *
  generalize a + 3 = T3 at *
  go_enter Try.func79, Try.ntmps79
  go_upto_region 1 with (fail)
  go_quiet (fail)
  have HSq : Hid (SA base w0 (w.drewN nq) sb c (.slice (some ⟨g, off, none⟩) len cp) m cap) := ⟨HS.out.belw (below_drewN (Below.refl _ _) nq)⟩
  clear d0 d1 HS hT1 i0 i1 i2 i3 i4
  generalize w.drewN nq = W at *
  have HSa : Hid (SA base w0 (W.alloc (.cells #[.int .u8 0, .int .u8 1, .int .u8 1] 5 (3, 4))) sb c (.slice (some ⟨g, off, none⟩) len cp) m cap) := ⟨HSq.out.belw ((Below.refl _ _).alloc (Nat.le_refl _) _)⟩
  have HPw : Hid _ := ⟨HP.out W HSq.out.bel⟩
  clear HP
  go_upto_region 3 with (go_at_call 90; (with_reducible refine HPw.out.mono ?_); rintro e wn ⟨he, hwn⟩; subst he; subst wn)
  clear hcv HPw
  generalize W.alloc (.cells #[.int .u8 0, .int .u8 1, .int .u8 1] 5 (3, 4)) = W2 at *
  have d1 : W2.cell? ⟨sb, 1, none⟩ = some (.int .i64 (T1 : Int)) := by rw [← ha]; exact HSa.out.c1
  have f1 := HSa.out.bk.fro 1
  have HN : Hid _ := ⟨HSa.out.set (m' := { m with at' := T3 }) 1 (.int .i64 (T3 : Int)) rfl rfl⟩
  clear ha
  go_wp2_with (go_at_call 91; (with_reducible refine (HEn.out _ HN.out).mono ?_); rintro e w2 ⟨he, hs2⟩; subst he; have H2 : Hid _ := ⟨hs2⟩; clear hs2)
  go_ret
  exact ⟨rfl, H2.out⟩

set_option maxHeartbeats 2000000 in
theorem extended_beg (h : SA base w0 w sb c (.slice (some ⟨g, off, none⟩) len cp) m cap) (hB : By base w0 (some ⟨g, off, none⟩) len cp bs) {a : Nat} (ha : m.at' = a + 1) {n : Int} (hn : 0 ≤ n ∧ n ≤ 4611686018427387904) (hat : At bs a [0, 9, 2]) (hat2 : At bs (a + 3) (pl n 8)) (hin2 : a + 3 + 8 ≤ len) (hr0 : m.rows = 0) (hr1 : m.row.at' = 0) :
    Calls Try.prog 79 #[.pointer (some ⟨sb, 0, none⟩)] w fun e w' => e = .returned (.bool true) ∧ SA base w0 w' sb c (.slice (some ⟨g, off, none⟩) len cp) { m with at' := a + 3 + 8, start := n } cap := by
  have hin : a + 3 ≤ len := by omega
  have hb0 : bs (a + 0) = 0 := hat 0 (by simp)
  have hb1 : bs (a + 1) = 9 := hat 1 (by simp)
  have hb2 : bs (a + 2) = 2 := hat 2 (by simp)
  have hsh := hB.short
  have hfit := hB.fit
  have htop := hB.top
  have HP : Hid _ := ⟨prefix_at hB hin 0 9 2 0 1 1 hb0 hb1 hb2 false cmp_beg⟩
  have HP2 : Hid _ := ⟨prefix_at hB hin 0 9 2 0 9 2 hb0 hb1 hb2 true cmp_beg2⟩
  have hcv := fun (w : World) (C : Array Value) (n c : Nat) => Lib.run_convert_bytes_const (P := Try.prog) w 30 5 C n c Try.underlying30 Try.underlying5
  have HS : Hid _ := ⟨h⟩
  have HEn : Hid (∀ W, SA base w0 W sb c (.slice (some ⟨g, off, none⟩) len cp) { m with at' := a + 3 } cap → Calls Try.prog 92 #[.pointer (some ⟨sb, 0, none⟩)] W fun e w' => e = .returned (.bool true) ∧ SA base w0 w' sb c (.slice (some ⟨g, off, none⟩) len cp) { m with at' := a + 3 + 8, start := n } cap) := ⟨fun W hW => setStart_ok hW hB hn hat2 hin2 hr0 hr1⟩
  have d0 := h.c0
  have d1 := h.c1
  rw [ha] at d1
  clear h hB hat hat2 hb0 hb1 hb2 hr0 hr1 htop hn
  have i2 : a ≤ len := by omega
  obtain ⟨hT, hT1⟩ := w64_two a (by omega)
  have i0 : (0 : Int) ≤ (a : Int) := by omega
  have i1 : (a : Int) ≤ (len : Int) := by omega
  have i3 : len ≤ cp := hfit
  have i4 : a < cp := by omega
  clear hin hin2 hsh
  generalize a + 3 + 8 = T11 at *
  generalize a + 1 = T1 at *
  generalize a + 3 = T3 at *
  go_enter Try.func79, Try.ntmps79
  go_upto_region 1 with (fail)
  go_quiet (fail)
  have HSq : Hid (SA base w0 (w.drewN nq) sb c (.slice (some ⟨g, off, none⟩) len cp) m cap) := ⟨HS.out.belw (below_drewN (Below.refl _ _) nq)⟩
  clear d0 d1 HS hT1 i0 i1 i2 i3 i4
  generalize w.drewN nq = W at *
  have HSa : Hid (SA base w0 (W.alloc (.cells #[.int .u8 0, .int .u8 1, .int .u8 1] 5 (3, 4))) sb c (.slice (some ⟨g, off, none⟩) len cp) m cap) := ⟨HSq.out.belw ((Below.refl _ _).alloc (Nat.le_refl _) _)⟩
  have HPw : Hid _ := ⟨HP.out W HSq.out.bel⟩
  clear HP
  go_upto_region 5 with (go_at_call 90; (with_reducible refine HPw.out.mono ?_); rintro e wn ⟨he, hwn⟩; subst he; subst wn)
  clear HPw
  generalize W.alloc (.cells #[.int .u8 0, .int .u8 1, .int .u8 1] 5 (3, 4)) = W1 at *
  have HPv : Hid _ := ⟨HP2.out W1 HSa.out.bel⟩
  have HSb : Hid (SA base w0 (W1.alloc (.cells #[.int .u8 0, .int .u8 9, .int .u8 2] 5 (3, 4))) sb c (.slice (some ⟨g, off, none⟩) len cp) m cap) := ⟨HSa.out.belw ((Below.refl _ _).alloc (Nat.le_refl _) _)⟩
  clear HP2 HSa
  go_upto_region 6 with (go_at_call 90; (with_reducible refine HPv.out.mono ?_); rintro e wn ⟨he, hwn⟩; subst he; subst wn)
  clear hcv HPv
  generalize W1.alloc (.cells #[.int .u8 0, .int .u8 9, .int .u8 2] 5 (3, 4)) = W2 at *
  have HSa := HSb
  have d1 : W2.cell? ⟨sb, 1, none⟩ = some (.int .i64 (T1 : Int)) := by rw [← ha]; exact HSa.out.c1
  have f1 := HSa.out.bk.fro 1
  have HN : Hid _ := ⟨HSa.out.set (m' := { m with at' := T3 }) 1 (.int .i64 (T3 : Int)) rfl rfl⟩
  clear ha
  go_wp2_with (go_at_call 92; (with_reducible refine (HEn.out _ HN.out).mono ?_); rintro e w2 ⟨he, hs2⟩; subst he; have H2 : Hid _ := ⟨hs2⟩; clear hs2)
  go_ret
  exact ⟨rfl, H2.out⟩
end
end Go.Proofs.Ytbhdledlahbokaa

/- The law MemoryPieces. -/
import Derived.Test.YtpfmnopokfiheaaLPlayed
import Derived.Test.YtpfmnopokfiheaaMEqual
import Derived.Test.YtpfmnopokfiheaaMCopy
import Derived.Test.YtpfmnopokfiheaaMLive
import Derived.Laws.Bits64b
namespace Go.Proofs.Ytpfmnopokfiheaa
open Go.ChangeShapes Go.WideShapes Go.ChangeAt Go.RowKit Go.Maps
set_option linter.unusedVariables false
set_option linter.unusedSimpArgs false

/-- A number, taken into 0 to 8999. -/
theorem into {n : Int} : ∃ (r : Int) (N : Nat), n.tmod 9000 = r ∧ -9000 < r ∧ r < 9000 ∧ (r + 9000).tmod 9000 = (N : Int) ∧ N < 9000 := by
  refine ⟨n.tmod 9000, ((n.tmod 9000 + 9000).tmod 9000).toNat, rfl, ?_, ?_, ?_, ?_⟩
  all_goals
    have h1 := Int.tmod_lt_of_pos n (show (0 : Int) < 9000 by omega)
    have h2 := Int.tmod_lt_of_pos (-n) (show (0 : Int) < 9000 by omega)
    rw [Int.neg_tmod] at h2
    try omega
  · have := Int.tmod_nonneg (a := n.tmod 9000 + 9000) 9000 (by omega)
    omega
  · have := Int.tmod_lt_of_pos (n.tmod 9000 + 9000) (show (0 : Int) < 9000 by omega)
    omega

theorem wrap_ad (a n : Nat) : IntKind.u64.wrap ((a : Int) + (n : Int)) = (adW a n : Int) := by
  unfold adW
  simp [IntKind.wrap, IntKind.signed, IntKind.bits]
theorem strOfNums_join (xs ys : List Int) : strOfNums (xs ++ ys) = strOfNums xs ++ strOfNums ys := by
  apply ByteArray.ext
  simp [strOfNums]

theorem and_low {v : Int} (h0 : 0 ≤ v) (h1 : v < 18446744073709551616) : bits .and .u64 v 4294967295 = v % 4294967296 := by
  obtain ⟨V, rfl⟩ : ∃ V : Nat, v = (V : Int) := ⟨v.toNat, by omega⟩
  have h := bits_and_u64_nat V 4294967295 (by omega) (by omega)
  have e : V &&& 4294967295 = V % 4294967296 := Nat.and_two_pow_sub_one_eq_mod V 32
  rw [e] at h
  exact h
/-- Two Memories of the call's own, apart. -/
structure C2 (w0 w : World) (cb cg : Nat) (p1 : Nat → Nat) (L : List Pz) (db dg : Nat) (p2 : Nat → Nat) (M : List Pz) : Prop where
  x : MA w cb cg p1 L
  y : MA w db dg p2 M
  ap : ∀ b, MS cb cg p1 L b → ¬ MS db dg p2 M b
  nx : ∀ b, MS cb cg p1 L b → w0.heap.size ≤ b
  ny : ∀ b, MS db dg p2 M b → w0.heap.size ≤ b
  bel : Below w0.heap.size w0 w
theorem C2.one {w0 w w' : World} {cb cg : Nat} {p1 : Nat → Nat} {L L' : List Pz} {db dg : Nat} {p2 : Nat → Nat} {M : List Pz} (h : C2 w0 w cb cg p1 L db dg p2 M) (hk : L'.map (fun p => p.k) = L.map (fun p => p.k)) (h1 : MA w' cb cg p1 L') (h2 : Turn (MS cb cg p1 L) w w') : C2 w0 w' cb cg p1 L' db dg p2 M :=
  ⟨h1, h.y.turn h2 fun b hb hx => h.ap b hx hb, fun b hb => h.ap b (MS_k hk hb), fun b hb => h.nx b (MS_k hk hb), h.ny, h.bel.trans (h2.below h.bel.size h.nx)⟩
theorem C2.two {w0 w w' : World} {cb cg : Nat} {p1 : Nat → Nat} {L : List Pz} {db dg : Nat} {p2 : Nat → Nat} {M M' : List Pz} (h : C2 w0 w cb cg p1 L db dg p2 M) (hk : M'.map (fun p => p.k) = M.map (fun p => p.k)) (h1 : MA w' db dg p2 M') (h2 : Turn (MS db dg p2 M) w w') : C2 w0 w' cb cg p1 L db dg p2 M' :=
  ⟨h.x.turn h2 fun b hb hx => h.ap b hb hx, h1, fun b hb hx => h.ap b hb (MS_k hk hx), h.nx, fun b hb => h.ny b (MS_k hk hb), h.bel.trans (h2.below h.bel.size h.ny)⟩

theorem Own.low {w : World} {base : Nat} {v : Value} {xs : List Int} (h : Own w base v xs) : Own w 0 v xs := by
  refine ⟨h.1, ?_⟩
  rcases h.2 with hv | ⟨g', c', cur, hv, h2, h3⟩
  · exact .inl hv
  · exact .inr ⟨g', c', cur, hv, Nat.zero_le _, h3⟩

set_option maxRecDepth 20000 in
set_option maxHeartbeats 4000000 in
theorem memoryPieces_walk (ao : Option Addr) (c : Nat) (l : List Oz) (a : Nat) (n k v : Int) (w : World) (hI : IsOps w ao l) (hl : l.length ≤ 140737488355328) (ha : a < 18446744073709551616) (hv : 0 ≤ v ∧ v < 18446744073709551616) :
    Calls Try.prog 6 #[.slice ao l.length c, .int .u64 (a : Int), .int .i64 n, .int .i64 k, .int .u64 v] w fun e w' => e = .returned (.bool true) ∧ Below w.heap.size w w' := by
  have HP := played_any ao c l w hI hl
  obtain ⟨r1, N, n1, n2, n3, n4, n5⟩ := into (n := n)
  obtain ⟨r2, K, k1, k2, k3, k4, k5⟩ := into (n := k)
  have HA : Hid (a < 18446744073709551616 ∧ (0 ≤ v ∧ v < 18446744073709551616)) := ⟨ha, hv⟩
  clear hI hl
  go_enter Try.func6, Try.ntmps6
  go_upto_region 4 with (go_at_call 14; (with_reducible refine HP.mono ?_); rintro e w1 ⟨mb, gb, rb, he, pl, lv, pb, L, h1, h2, h3, h4⟩; subst he)
  have hm := h1.m
  obtain ⟨A2, hA2⟩ : ∃ A2, adW a N = A2 := ⟨_, rfl⟩
  have hA2' : IntKind.u64.wrap ((a : Int) + (N : Int)) = (A2 : Int) := by rw [← hA2]; exact wrap_ad a N
  obtain ⟨X1, hX1⟩ : ∃ X, rdX L a ((N : Int) + (K : Int)) = X := ⟨_, rfl⟩
  obtain ⟨X2, hX2⟩ : ∃ X, rdX L a (N : Int) = X := ⟨_, rfl⟩
  obtain ⟨X3, hX3⟩ : ∃ X, rdX L A2 (K : Int) = X := ⟨_, rfl⟩
  obtain ⟨E1, hE1⟩ : ∃ X, rdE L a ((N : Int) + (K : Int)) = X := ⟨_, rfl⟩
  obtain ⟨E2, hE2⟩ : ∃ X, rdE L a (N : Int) = X := ⟨_, rfl⟩
  obtain ⟨E3, hE3⟩ : ∃ X, rdE L A2 (K : Int) = X := ⟨_, rfl⟩
  have HR1 : Hid (∀ W, Below w1.heap.size w1 W → Calls Try.prog 20 #[.pointer (some ⟨mb, 0, none⟩), .int .u64 (a : Int), .int .i64 ((N : Int) + (K : Int))] W fun e w' => BE X1 E1 W e w') := ⟨fun W hb => by
    rw [← hX1, ← hE1]; exact mread_be mb gb a pl L _ W (hm.below hb) ha⟩
  have HR2 : Hid (∀ W, Below w1.heap.size w1 W → Calls Try.prog 20 #[.pointer (some ⟨mb, 0, none⟩), .int .u64 (a : Int), .int .i64 (N : Int)] W fun e w' => BE X2 E2 W e w') := ⟨fun W hb => by
    rw [← hX2, ← hE2]; exact mread_be mb gb a pl L _ W (hm.below hb) ha⟩
  have HR3 : Hid (∀ W, Below w1.heap.size w1 W → Calls Try.prog 20 #[.pointer (some ⟨mb, 0, none⟩), .int .u64 (A2 : Int), .int .i64 (K : Int)] W fun e w' => BE X3 E3 W e w') := ⟨fun W hb => by
    rw [← hX3, ← hE3]; exact mread_be mb gb A2 pl L _ W (hm.below hb) (by rw [← hA2]; exact adW_lt _ _)⟩
  have HF : Hid ((E1 = 0 → E2 = 0 ∧ E3 = 0 ∧ X1 = X2 ++ X3) ∧ (0 < N → E2 = 0 → E3 = 0 → E1 = 0) ∧ X2.length ≤ 1048576 ∧ X3.length ≤ 1048576) := ⟨by
    have e : (N : Int) + (K : Int) = ((N + K : Nat) : Int) := by omega
    rw [e] at hE1 hX1
    refine ⟨fun h => ?_, fun h0 q2 q3 => ?_, ?_, ?_⟩
    · rw [← hE1] at h
      obtain ⟨z1, z2, z3⟩ := pieces_ok hm.mz ha (by omega) h
      rw [hA2] at z2 z3
      exact ⟨hE2.symm.trans z1, hE3.symm.trans z2, by rw [← hX1, ← hX2, ← hX3]; exact z3⟩
    · rw [← hE1]
      exact pieces_no hm.mz ha (by omega) h0 (hE2.trans q2) (by rw [hA2]; exact hE3.trans q3)
    · rw [← hX2]; exact (rdX_in hm.mz a _).2
    · rw [← hX3]; exact (rdX_in hm.mz A2 _).2⟩
  have HM1 : Hid (MA w1 mb gb pl L ∧ L.length ≤ 1024 ∧ Below w.heap.size w w1) := ⟨hm, h2, h3⟩
  clear hX1 hX2 hX3 hE1 hE2 hE3 hm h1 h2 h3 h4 ha hv hA2
  have nk : (N : Int) + (K : Int) < 18000 := by omega
  go_upto_region 7 with (go_at_call 20; (with_reducible refine (HR1.out _ (Below.refl _ _)).mono ?_); rintro e w2 ⟨v1, he, ho1, hb1⟩; subst he; have H1 : Hid (Own w2 0 v1 X1 ∧ Below w1.heap.size w1 w2) := ⟨ho1.low, hb1⟩; clear ho1 hb1)
  go_upto_region 8 with (go_at_call 20; (with_reducible refine (HR2.out _ H1.out.2).mono ?_); rintro e w3 ⟨v2, he, ho2, hb2⟩; subst he; have H2 : Hid (Own w3 0 v1 X1 ∧ Own w3 0 v2 X2 ∧ Below w1.heap.size w1 w3) := ⟨H1.out.1.bel hb2, ho2.low, H1.out.2.trans (hb2.mono H1.out.2.size)⟩; clear ho2 hb2)
  go_upto_region 9 with (go_at_call 20; (with_reducible refine (HR3.out _ H2.out.2.2).mono ?_); rintro e w4 ⟨v3, he, ho3, hb3⟩; subst he; have H3 : Hid (Own w4 0 v1 X1 ∧ Own w4 0 v2 X2 ∧ Own w4 0 v3 X3 ∧ Below w1.heap.size w1 w4) := ⟨H2.out.1.bel hb3, H2.out.2.1.bel hb3, ho3.low, H2.out.2.2.trans (hb3.mono H2.out.2.2.size)⟩; clear ho3 hb3)
  have q1 := H3.out.1.conv
  have q2 := H3.out.2.1.conv
  have q3 := H3.out.2.2.1.conv
  have HY : Hid (E1 = 0 → ∀ W, (Op.stringOp .add (strOfNums X2) (strOfNums X3)).run Try.prog W = .ok (.string (strOfNums X1)) W) := ⟨fun h W => by
    rw [(HF.out.1 h).2.2, strOfNums_join]
    exact run_string_add_sum W _ _ (by rw [strOfNums_size, strOfNums_size]; have := HF.out.2.2; omega)⟩
  have HM2 : Hid (MA w4 mb gb pl L ∧ L.length ≤ 1024 ∧ Below w.heap.size w w4) := ⟨HM1.out.1.below H3.out.2.2.2, HM1.out.2.1, HM1.out.2.2.trans (H3.out.2.2.2.mono HM1.out.2.2.size)⟩
  have HE : Hid ((E1 = 0 → E2 = 0 ∧ E3 = 0) ∧ (0 < N → E2 = 0 → E3 = 0 → E1 = 0)) := ⟨fun h => ⟨(HF.out.1 h).1, (HF.out.1 h).2.1⟩, HF.out.2.1⟩
  generalize strOfNums X1 = Y1 at *
  generalize strOfNums X2 = Y2 at *
  generalize strOfNums X3 = Y3 at *
  clear H3 H2 H1 HR1 HR2 HR3 HF HM1 hA2' n1 n4 k1 k4 n2 n3 k2 k3
  have hyy : (Y1.toList == Y1.toList) = true := by simp
  have hyn : (Y1.toList != Y1.toList) = false := by simp
  by_cases e1 : E1 = 0
  · obtain ⟨e2, e3⟩ := HE.out.1 e1
    have hadd := HY.out e1
    subst e1 e2 e3
    go_upto_region 11 with (go_at_call 18; (with_reducible refine (num_any _ _).mono ?_); rintro e wn ⟨he, hwn⟩; subst he; subst wn)
    have a1 : ((0 : Int) != 0) = false := by decide
    go_upto_region 13 with (go_at_call 18; (with_reducible refine (num_any _ _).mono ?_); rintro e wn ⟨he, hwn⟩; subst he; subst wn)
    clear HP
    have HCP : Hid _ := HM2
    go_upto_region 14 with (go_at_call 15; (with_reducible refine (copy_any mb gb pl L _ HM2.out.1 (by have := HM2.out.2.1; omega)).mono ?_); rintro e w5 ⟨cb, cg, p1, he, g1, g2, g3⟩; subst he; have HC1 : Hid (MA w5 mb gb pl L ∧ MA w5 cb cg p1 L ∧ (∀ b, MS cb cg p1 L b → w.heap.size ≤ b) ∧ Below w.heap.size w w5) := ⟨HM2.out.1.below g3, g1, fun b hb => Nat.le_trans HM2.out.2.2.size (g2 b hb), HM2.out.2.2.trans (g3.mono HM2.out.2.2.size)⟩; clear g1 g2 g3)
    go_upto_region 15 with (go_at_call 15; (with_reducible refine (copy_any mb gb pl L _ HC1.out.1 (by have := HM2.out.2.1; omega)).mono ?_); rintro e w6 ⟨db, dg, p2, he, g1, g2, g3⟩; subst he; have HC2 : Hid (C2 w w6 cb cg p1 L db dg p2 L) := ⟨HC1.out.2.1.below g3, g1, fun b h1 h2 => by have := HC1.out.2.1.slt h1; have := g2 b h2; omega, HC1.out.2.2.1, fun b hb => Nat.le_trans HC1.out.2.2.2.size (g2 b hb), HC1.out.2.2.2.trans (g3.mono HC1.out.2.2.2.size)⟩; clear g1 g2 g3)
    clear HM2 HCP HC1
    obtain ⟨F1, hF1⟩ : ∃ F, givE L 2 61 a 8 = F := ⟨_, rfl⟩
    obtain ⟨F2, hF2⟩ : ∃ F, givE L 2 61 a 4 = F := ⟨_, rfl⟩
    obtain ⟨L8, hL8⟩ : ∃ F, givL L 2 61 a (btL v 8) = F := ⟨_, rfl⟩
    obtain ⟨La, hLa⟩ : ∃ F, givL L 2 61 a (btL (v % 4294967296) 4) = F := ⟨_, rfl⟩
    obtain ⟨A4, hA4⟩ : ∃ F, adW a 4 = F := ⟨_, rfl⟩
    obtain ⟨F3, hF3⟩ : ∃ F, givE La 2 61 A4 4 = F := ⟨_, rfl⟩
    obtain ⟨Lb, hLb⟩ : ∃ F, givL La 2 61 A4 (btL (v / 4294967296) 4) = F := ⟨_, rfl⟩
    have hA4' : IntKind.u64.wrap ((a : Int) + 4) = (A4 : Int) := by rw [← hA4]; exact wrap_ad a 4
    have hlo : bits .and .u64 v 4294967295 = v % 4294967296 := and_low HA.out.2.1 HA.out.2.2
    obtain ⟨lo, hl1⟩ : ∃ x, v % 4294967296 = x := ⟨_, rfl⟩
    rw [hl1] at hlo hLa
    have HS1 : Hid (Calls Try.prog 21 #[.pointer (some ⟨cb, 0, none⟩), .int .u64 (a : Int), .int .i64 8, .int .u64 v] w6 fun e w' => e = .returned (.int .i64 F1) ∧ C2 w w' cb cg p1 L8 db dg p2 L) := ⟨by
      rw [← hF1, ← hL8]
      refine (store_any cb cg a 8 p1 L v w6 HC2.out.x HA.out.1 (by decide)).mono ?_
      rintro e w' ⟨rfl, h1, h2⟩
      exact ⟨rfl, HC2.out.one (givL_k _ _ _ _ _) h1 h2⟩⟩
    go_upto_region 16 with (go_at_call 21; (with_reducible refine HS1.out.mono ?_); rintro e w7 ⟨he, g1⟩; subst he; have HC3 : Hid _ := ⟨g1⟩; clear g1)
    have HS2 : Hid (Calls Try.prog 21 #[.pointer (some ⟨db, 0, none⟩), .int .u64 (a : Int), .int .i64 4, .int .u64 lo] w7 fun e w' => e = .returned (.int .i64 F2) ∧ C2 w w' cb cg p1 L8 db dg p2 La) := ⟨by
      rw [← hF2, ← hLa]
      refine (store_any db dg a 4 p2 L lo w7 HC3.out.y HA.out.1 (by decide)).mono ?_
      rintro e w' ⟨rfl, h1, h2⟩
      exact ⟨rfl, HC3.out.two (givL_k _ _ _ _ _) h1 h2⟩⟩
    go_upto_region 17 with (go_at_call 21; (with_reducible refine HS2.out.mono ?_); rintro e w8 ⟨he, g1⟩; subst he; have HC4 : Hid _ := ⟨g1⟩; clear g1)
    have HS3 : Hid (Calls Try.prog 21 #[.pointer (some ⟨db, 0, none⟩), .int .u64 (A4 : Int), .int .i64 4, .int .u64 (v / 4294967296)] w8 fun e w' => e = .returned (.int .i64 F3) ∧ C2 w w' cb cg p1 L8 db dg p2 Lb) := ⟨by
      rw [← hF3, ← hLb]
      refine (store_any db dg A4 4 p2 La (v / 4294967296) w8 HC4.out.y (by rw [← hA4]; exact adW_lt _ _) (by decide)).mono ?_
      rintro e w' ⟨rfl, h1, h2⟩
      exact ⟨rfl, HC4.out.two (givL_k _ _ _ _ _) h1 h2⟩⟩
    have HH : Hid (F1 = 0 → F2 = 0 ∧ F3 = 0 ∧ L8 = Lb) := ⟨fun h => by
      rw [← hF1] at h
      have := halves_ok HC2.out.x.mz HA.out.1 (v := v) h (by rw [hl1, hLa]; exact HC4.out.y.mz)
      rw [hl1, hLa, hA4, hF2, hF3, hLb, hL8] at this
      exact this⟩
    go_upto_region 18 with (go_at_call 21; (with_reducible refine HS3.out.mono ?_); rintro e w9 ⟨he, g1⟩; subst he; have HC5 : Hid _ := ⟨g1⟩; clear g1)
    clear HS1 HS2 HS3 HC2 HC3 HC4 hF1 hF2 hF3 hL8 hLa hLb hA4 hA4' hlo hl1
    have HLv : Hid (∀ W, Below w.heap.size w W → Calls Try.prog 13 #[] W fun e w' => e = .returned (.bool true) ∧ Below w.heap.size w w') := ⟨fun W hb => by
      refine (live_any W).mono ?_
      rintro e w' ⟨rfl, h⟩
      exact ⟨rfl, hb.trans (h.mono hb.size)⟩⟩
    by_cases f1 : F1 = 0
    · obtain ⟨f2, f3, f4⟩ := HH.out f1
      subst f1 f2 f3 f4
      have HSm : Hid (Calls Try.prog 11 #[.pointer (some ⟨cb, 0, none⟩), .pointer (some ⟨db, 0, none⟩)] w9 fun e w' => e = .returned (.bool true) ∧ Below w.heap.size w w') := ⟨by
        refine (same_any cb cg db dg p1 p2 L8 L8 w9 HC5.out.x HC5.out.y).mono ?_
        rintro e w' ⟨b, rfl, h1, h2⟩
        obtain rfl : b = true := h1.2 rfl
        exact ⟨rfl, HC5.out.bel.trans (h2.mono HC5.out.bel.size)⟩⟩
      go_wp2_with (first
        | (go_at_call 18; (with_reducible refine (num_any _ _).mono ?_); rintro e wn ⟨he, hwn⟩; subst he; subst wn)
        | (go_at_call 11; (with_reducible refine HSm.out.mono ?_); rintro e wa ⟨he, hba⟩; subst he)
        | (go_at_call 13; (with_reducible refine (HLv.out _ hba).mono ?_); rintro e wb ⟨he, hbb⟩; subst he))
      go_ret
      exact ⟨rfl, hbb⟩
    · have g1 : (F1 == 0) = false := by simpa using f1
      have g2 : (F1 != 0) = true := by simpa using f1
      go_wp2_with (first
        | (go_at_call 18; (with_reducible refine (num_any _ _).mono ?_); rintro e wn ⟨he, hwn⟩; subst he; subst wn)
        | (go_at_call 13; (with_reducible refine (HLv.out _ HC5.out.bel).mono ?_); rintro e wb ⟨he, hbb⟩; subst he))
      go_ret
      exact ⟨rfl, hbb⟩
  · have b1 : (E1 == 0) = false := by simpa using e1
    have b2 : (E1 != 0) = true := by simpa using e1
    have hE := HE.out.2
    clear hyy hyn HY HE q1 q2 q3
    by_cases cN : 0 < N
    rotate_left
    · have d1 : ¬ (0 : Int) < (N : Int) := by omega
      go_upto_region 13 with (go_at_call 18; (with_reducible refine (num_any _ _).mono ?_); rintro e wn ⟨he, hwn⟩; subst he; subst wn)
      clear HP
      have HCP : Hid _ := HM2
      go_upto_region 14 with (go_at_call 15; (with_reducible refine (copy_any mb gb pl L _ HM2.out.1 (by have := HM2.out.2.1; omega)).mono ?_); rintro e w5 ⟨cb, cg, p1, he, g1, g2, g3⟩; subst he; have HC1 : Hid (MA w5 mb gb pl L ∧ MA w5 cb cg p1 L ∧ (∀ b, MS cb cg p1 L b → w.heap.size ≤ b) ∧ Below w.heap.size w w5) := ⟨HM2.out.1.below g3, g1, fun b hb => Nat.le_trans HM2.out.2.2.size (g2 b hb), HM2.out.2.2.trans (g3.mono HM2.out.2.2.size)⟩; clear g1 g2 g3)
      go_upto_region 15 with (go_at_call 15; (with_reducible refine (copy_any mb gb pl L _ HC1.out.1 (by have := HM2.out.2.1; omega)).mono ?_); rintro e w6 ⟨db, dg, p2, he, g1, g2, g3⟩; subst he; have HC2 : Hid (C2 w w6 cb cg p1 L db dg p2 L) := ⟨HC1.out.2.1.below g3, g1, fun b h1 h2 => by have := HC1.out.2.1.slt h1; have := g2 b h2; omega, HC1.out.2.2.1, fun b hb => Nat.le_trans HC1.out.2.2.2.size (g2 b hb), HC1.out.2.2.2.trans (g3.mono HC1.out.2.2.2.size)⟩; clear g1 g2 g3)
      clear HM2 HCP HC1
      obtain ⟨F1, hF1⟩ : ∃ F, givE L 2 61 a 8 = F := ⟨_, rfl⟩
      obtain ⟨F2, hF2⟩ : ∃ F, givE L 2 61 a 4 = F := ⟨_, rfl⟩
      obtain ⟨L8, hL8⟩ : ∃ F, givL L 2 61 a (btL v 8) = F := ⟨_, rfl⟩
      obtain ⟨La, hLa⟩ : ∃ F, givL L 2 61 a (btL (v % 4294967296) 4) = F := ⟨_, rfl⟩
      obtain ⟨A4, hA4⟩ : ∃ F, adW a 4 = F := ⟨_, rfl⟩
      obtain ⟨F3, hF3⟩ : ∃ F, givE La 2 61 A4 4 = F := ⟨_, rfl⟩
      obtain ⟨Lb, hLb⟩ : ∃ F, givL La 2 61 A4 (btL (v / 4294967296) 4) = F := ⟨_, rfl⟩
      have hA4' : IntKind.u64.wrap ((a : Int) + 4) = (A4 : Int) := by rw [← hA4]; exact wrap_ad a 4
      have hlo : bits .and .u64 v 4294967295 = v % 4294967296 := and_low HA.out.2.1 HA.out.2.2
      obtain ⟨lo, hl1⟩ : ∃ x, v % 4294967296 = x := ⟨_, rfl⟩
      rw [hl1] at hlo hLa
      have HS1 : Hid (Calls Try.prog 21 #[.pointer (some ⟨cb, 0, none⟩), .int .u64 (a : Int), .int .i64 8, .int .u64 v] w6 fun e w' => e = .returned (.int .i64 F1) ∧ C2 w w' cb cg p1 L8 db dg p2 L) := ⟨by
        rw [← hF1, ← hL8]
        refine (store_any cb cg a 8 p1 L v w6 HC2.out.x HA.out.1 (by decide)).mono ?_
        rintro e w' ⟨rfl, h1, h2⟩
        exact ⟨rfl, HC2.out.one (givL_k _ _ _ _ _) h1 h2⟩⟩
      go_upto_region 16 with (go_at_call 21; (with_reducible refine HS1.out.mono ?_); rintro e w7 ⟨he, g1⟩; subst he; have HC3 : Hid _ := ⟨g1⟩; clear g1)
      have HS2 : Hid (Calls Try.prog 21 #[.pointer (some ⟨db, 0, none⟩), .int .u64 (a : Int), .int .i64 4, .int .u64 lo] w7 fun e w' => e = .returned (.int .i64 F2) ∧ C2 w w' cb cg p1 L8 db dg p2 La) := ⟨by
        rw [← hF2, ← hLa]
        refine (store_any db dg a 4 p2 L lo w7 HC3.out.y HA.out.1 (by decide)).mono ?_
        rintro e w' ⟨rfl, h1, h2⟩
        exact ⟨rfl, HC3.out.two (givL_k _ _ _ _ _) h1 h2⟩⟩
      go_upto_region 17 with (go_at_call 21; (with_reducible refine HS2.out.mono ?_); rintro e w8 ⟨he, g1⟩; subst he; have HC4 : Hid _ := ⟨g1⟩; clear g1)
      have HS3 : Hid (Calls Try.prog 21 #[.pointer (some ⟨db, 0, none⟩), .int .u64 (A4 : Int), .int .i64 4, .int .u64 (v / 4294967296)] w8 fun e w' => e = .returned (.int .i64 F3) ∧ C2 w w' cb cg p1 L8 db dg p2 Lb) := ⟨by
        rw [← hF3, ← hLb]
        refine (store_any db dg A4 4 p2 La (v / 4294967296) w8 HC4.out.y (by rw [← hA4]; exact adW_lt _ _) (by decide)).mono ?_
        rintro e w' ⟨rfl, h1, h2⟩
        exact ⟨rfl, HC4.out.two (givL_k _ _ _ _ _) h1 h2⟩⟩
      have HH : Hid (F1 = 0 → F2 = 0 ∧ F3 = 0 ∧ L8 = Lb) := ⟨fun h => by
        rw [← hF1] at h
        have := halves_ok HC2.out.x.mz HA.out.1 (v := v) h (by rw [hl1, hLa]; exact HC4.out.y.mz)
        rw [hl1, hLa, hA4, hF2, hF3, hLb, hL8] at this
        exact this⟩
      go_upto_region 18 with (go_at_call 21; (with_reducible refine HS3.out.mono ?_); rintro e w9 ⟨he, g1⟩; subst he; have HC5 : Hid _ := ⟨g1⟩; clear g1)
      clear HS1 HS2 HS3 HC2 HC3 HC4 hF1 hF2 hF3 hL8 hLa hLb hA4 hA4' hlo hl1
      have HLv : Hid (∀ W, Below w.heap.size w W → Calls Try.prog 13 #[] W fun e w' => e = .returned (.bool true) ∧ Below w.heap.size w w') := ⟨fun W hb => by
        refine (live_any W).mono ?_
        rintro e w' ⟨rfl, h⟩
        exact ⟨rfl, hb.trans (h.mono hb.size)⟩⟩
      by_cases f1 : F1 = 0
      · obtain ⟨f2, f3, f4⟩ := HH.out f1
        subst f1 f2 f3 f4
        have HSm : Hid (Calls Try.prog 11 #[.pointer (some ⟨cb, 0, none⟩), .pointer (some ⟨db, 0, none⟩)] w9 fun e w' => e = .returned (.bool true) ∧ Below w.heap.size w w') := ⟨by
          refine (same_any cb cg db dg p1 p2 L8 L8 w9 HC5.out.x HC5.out.y).mono ?_
          rintro e w' ⟨b, rfl, h1, h2⟩
          obtain rfl : b = true := h1.2 rfl
          exact ⟨rfl, HC5.out.bel.trans (h2.mono HC5.out.bel.size)⟩⟩
        go_wp2_with (first
          | (go_at_call 18; (with_reducible refine (num_any _ _).mono ?_); rintro e wn ⟨he, hwn⟩; subst he; subst wn)
          | (go_at_call 11; (with_reducible refine HSm.out.mono ?_); rintro e wa ⟨he, hba⟩; subst he)
          | (go_at_call 13; (with_reducible refine (HLv.out _ hba).mono ?_); rintro e wb ⟨he, hbb⟩; subst he))
        go_ret
        exact ⟨rfl, hbb⟩
      · have g1 : (F1 == 0) = false := by simpa using f1
        have g2 : (F1 != 0) = true := by simpa using f1
        go_wp2_with (first
          | (go_at_call 18; (with_reducible refine (num_any _ _).mono ?_); rintro e wn ⟨he, hwn⟩; subst he; subst wn)
          | (go_at_call 13; (with_reducible refine (HLv.out _ HC5.out.bel).mono ?_); rintro e wb ⟨he, hbb⟩; subst he))
        go_ret
        exact ⟨rfl, hbb⟩
    have d1 : (0 : Int) < (N : Int) := by omega
    by_cases cK : 0 < K
    rotate_left
    · have d2 : ¬ (0 : Int) < (K : Int) := by omega
      go_upto_region 13 with (go_at_call 18; (with_reducible refine (num_any _ _).mono ?_); rintro e wn ⟨he, hwn⟩; subst he; subst wn)
      clear HP
      have HCP : Hid _ := HM2
      go_upto_region 14 with (go_at_call 15; (with_reducible refine (copy_any mb gb pl L _ HM2.out.1 (by have := HM2.out.2.1; omega)).mono ?_); rintro e w5 ⟨cb, cg, p1, he, g1, g2, g3⟩; subst he; have HC1 : Hid (MA w5 mb gb pl L ∧ MA w5 cb cg p1 L ∧ (∀ b, MS cb cg p1 L b → w.heap.size ≤ b) ∧ Below w.heap.size w w5) := ⟨HM2.out.1.below g3, g1, fun b hb => Nat.le_trans HM2.out.2.2.size (g2 b hb), HM2.out.2.2.trans (g3.mono HM2.out.2.2.size)⟩; clear g1 g2 g3)
      go_upto_region 15 with (go_at_call 15; (with_reducible refine (copy_any mb gb pl L _ HC1.out.1 (by have := HM2.out.2.1; omega)).mono ?_); rintro e w6 ⟨db, dg, p2, he, g1, g2, g3⟩; subst he; have HC2 : Hid (C2 w w6 cb cg p1 L db dg p2 L) := ⟨HC1.out.2.1.below g3, g1, fun b h1 h2 => by have := HC1.out.2.1.slt h1; have := g2 b h2; omega, HC1.out.2.2.1, fun b hb => Nat.le_trans HC1.out.2.2.2.size (g2 b hb), HC1.out.2.2.2.trans (g3.mono HC1.out.2.2.2.size)⟩; clear g1 g2 g3)
      clear HM2 HCP HC1
      obtain ⟨F1, hF1⟩ : ∃ F, givE L 2 61 a 8 = F := ⟨_, rfl⟩
      obtain ⟨F2, hF2⟩ : ∃ F, givE L 2 61 a 4 = F := ⟨_, rfl⟩
      obtain ⟨L8, hL8⟩ : ∃ F, givL L 2 61 a (btL v 8) = F := ⟨_, rfl⟩
      obtain ⟨La, hLa⟩ : ∃ F, givL L 2 61 a (btL (v % 4294967296) 4) = F := ⟨_, rfl⟩
      obtain ⟨A4, hA4⟩ : ∃ F, adW a 4 = F := ⟨_, rfl⟩
      obtain ⟨F3, hF3⟩ : ∃ F, givE La 2 61 A4 4 = F := ⟨_, rfl⟩
      obtain ⟨Lb, hLb⟩ : ∃ F, givL La 2 61 A4 (btL (v / 4294967296) 4) = F := ⟨_, rfl⟩
      have hA4' : IntKind.u64.wrap ((a : Int) + 4) = (A4 : Int) := by rw [← hA4]; exact wrap_ad a 4
      have hlo : bits .and .u64 v 4294967295 = v % 4294967296 := and_low HA.out.2.1 HA.out.2.2
      obtain ⟨lo, hl1⟩ : ∃ x, v % 4294967296 = x := ⟨_, rfl⟩
      rw [hl1] at hlo hLa
      have HS1 : Hid (Calls Try.prog 21 #[.pointer (some ⟨cb, 0, none⟩), .int .u64 (a : Int), .int .i64 8, .int .u64 v] w6 fun e w' => e = .returned (.int .i64 F1) ∧ C2 w w' cb cg p1 L8 db dg p2 L) := ⟨by
        rw [← hF1, ← hL8]
        refine (store_any cb cg a 8 p1 L v w6 HC2.out.x HA.out.1 (by decide)).mono ?_
        rintro e w' ⟨rfl, h1, h2⟩
        exact ⟨rfl, HC2.out.one (givL_k _ _ _ _ _) h1 h2⟩⟩
      go_upto_region 16 with (go_at_call 21; (with_reducible refine HS1.out.mono ?_); rintro e w7 ⟨he, g1⟩; subst he; have HC3 : Hid _ := ⟨g1⟩; clear g1)
      have HS2 : Hid (Calls Try.prog 21 #[.pointer (some ⟨db, 0, none⟩), .int .u64 (a : Int), .int .i64 4, .int .u64 lo] w7 fun e w' => e = .returned (.int .i64 F2) ∧ C2 w w' cb cg p1 L8 db dg p2 La) := ⟨by
        rw [← hF2, ← hLa]
        refine (store_any db dg a 4 p2 L lo w7 HC3.out.y HA.out.1 (by decide)).mono ?_
        rintro e w' ⟨rfl, h1, h2⟩
        exact ⟨rfl, HC3.out.two (givL_k _ _ _ _ _) h1 h2⟩⟩
      go_upto_region 17 with (go_at_call 21; (with_reducible refine HS2.out.mono ?_); rintro e w8 ⟨he, g1⟩; subst he; have HC4 : Hid _ := ⟨g1⟩; clear g1)
      have HS3 : Hid (Calls Try.prog 21 #[.pointer (some ⟨db, 0, none⟩), .int .u64 (A4 : Int), .int .i64 4, .int .u64 (v / 4294967296)] w8 fun e w' => e = .returned (.int .i64 F3) ∧ C2 w w' cb cg p1 L8 db dg p2 Lb) := ⟨by
        rw [← hF3, ← hLb]
        refine (store_any db dg A4 4 p2 La (v / 4294967296) w8 HC4.out.y (by rw [← hA4]; exact adW_lt _ _) (by decide)).mono ?_
        rintro e w' ⟨rfl, h1, h2⟩
        exact ⟨rfl, HC4.out.two (givL_k _ _ _ _ _) h1 h2⟩⟩
      have HH : Hid (F1 = 0 → F2 = 0 ∧ F3 = 0 ∧ L8 = Lb) := ⟨fun h => by
        rw [← hF1] at h
        have := halves_ok HC2.out.x.mz HA.out.1 (v := v) h (by rw [hl1, hLa]; exact HC4.out.y.mz)
        rw [hl1, hLa, hA4, hF2, hF3, hLb, hL8] at this
        exact this⟩
      go_upto_region 18 with (go_at_call 21; (with_reducible refine HS3.out.mono ?_); rintro e w9 ⟨he, g1⟩; subst he; have HC5 : Hid _ := ⟨g1⟩; clear g1)
      clear HS1 HS2 HS3 HC2 HC3 HC4 hF1 hF2 hF3 hL8 hLa hLb hA4 hA4' hlo hl1
      have HLv : Hid (∀ W, Below w.heap.size w W → Calls Try.prog 13 #[] W fun e w' => e = .returned (.bool true) ∧ Below w.heap.size w w') := ⟨fun W hb => by
        refine (live_any W).mono ?_
        rintro e w' ⟨rfl, h⟩
        exact ⟨rfl, hb.trans (h.mono hb.size)⟩⟩
      by_cases f1 : F1 = 0
      · obtain ⟨f2, f3, f4⟩ := HH.out f1
        subst f1 f2 f3 f4
        have HSm : Hid (Calls Try.prog 11 #[.pointer (some ⟨cb, 0, none⟩), .pointer (some ⟨db, 0, none⟩)] w9 fun e w' => e = .returned (.bool true) ∧ Below w.heap.size w w') := ⟨by
          refine (same_any cb cg db dg p1 p2 L8 L8 w9 HC5.out.x HC5.out.y).mono ?_
          rintro e w' ⟨b, rfl, h1, h2⟩
          obtain rfl : b = true := h1.2 rfl
          exact ⟨rfl, HC5.out.bel.trans (h2.mono HC5.out.bel.size)⟩⟩
        go_wp2_with (first
          | (go_at_call 18; (with_reducible refine (num_any _ _).mono ?_); rintro e wn ⟨he, hwn⟩; subst he; subst wn)
          | (go_at_call 11; (with_reducible refine HSm.out.mono ?_); rintro e wa ⟨he, hba⟩; subst he)
          | (go_at_call 13; (with_reducible refine (HLv.out _ hba).mono ?_); rintro e wb ⟨he, hbb⟩; subst he))
        go_ret
        exact ⟨rfl, hbb⟩
      · have g1 : (F1 == 0) = false := by simpa using f1
        have g2 : (F1 != 0) = true := by simpa using f1
        go_wp2_with (first
          | (go_at_call 18; (with_reducible refine (num_any _ _).mono ?_); rintro e wn ⟨he, hwn⟩; subst he; subst wn)
          | (go_at_call 13; (with_reducible refine (HLv.out _ HC5.out.bel).mono ?_); rintro e wb ⟨he, hbb⟩; subst he))
        go_ret
        exact ⟨rfl, hbb⟩
    have d2 : (0 : Int) < (K : Int) := by omega
    by_cases e2 : E2 = 0
    rotate_left
    · have d3 : (E2 == 0) = false := by simpa using e2
      go_upto_region 13 with (go_at_call 18; (with_reducible refine (num_any _ _).mono ?_); rintro e wn ⟨he, hwn⟩; subst he; subst wn)
      clear HP
      have HCP : Hid _ := HM2
      go_upto_region 14 with (go_at_call 15; (with_reducible refine (copy_any mb gb pl L _ HM2.out.1 (by have := HM2.out.2.1; omega)).mono ?_); rintro e w5 ⟨cb, cg, p1, he, g1, g2, g3⟩; subst he; have HC1 : Hid (MA w5 mb gb pl L ∧ MA w5 cb cg p1 L ∧ (∀ b, MS cb cg p1 L b → w.heap.size ≤ b) ∧ Below w.heap.size w w5) := ⟨HM2.out.1.below g3, g1, fun b hb => Nat.le_trans HM2.out.2.2.size (g2 b hb), HM2.out.2.2.trans (g3.mono HM2.out.2.2.size)⟩; clear g1 g2 g3)
      go_upto_region 15 with (go_at_call 15; (with_reducible refine (copy_any mb gb pl L _ HC1.out.1 (by have := HM2.out.2.1; omega)).mono ?_); rintro e w6 ⟨db, dg, p2, he, g1, g2, g3⟩; subst he; have HC2 : Hid (C2 w w6 cb cg p1 L db dg p2 L) := ⟨HC1.out.2.1.below g3, g1, fun b h1 h2 => by have := HC1.out.2.1.slt h1; have := g2 b h2; omega, HC1.out.2.2.1, fun b hb => Nat.le_trans HC1.out.2.2.2.size (g2 b hb), HC1.out.2.2.2.trans (g3.mono HC1.out.2.2.2.size)⟩; clear g1 g2 g3)
      clear HM2 HCP HC1
      obtain ⟨F1, hF1⟩ : ∃ F, givE L 2 61 a 8 = F := ⟨_, rfl⟩
      obtain ⟨F2, hF2⟩ : ∃ F, givE L 2 61 a 4 = F := ⟨_, rfl⟩
      obtain ⟨L8, hL8⟩ : ∃ F, givL L 2 61 a (btL v 8) = F := ⟨_, rfl⟩
      obtain ⟨La, hLa⟩ : ∃ F, givL L 2 61 a (btL (v % 4294967296) 4) = F := ⟨_, rfl⟩
      obtain ⟨A4, hA4⟩ : ∃ F, adW a 4 = F := ⟨_, rfl⟩
      obtain ⟨F3, hF3⟩ : ∃ F, givE La 2 61 A4 4 = F := ⟨_, rfl⟩
      obtain ⟨Lb, hLb⟩ : ∃ F, givL La 2 61 A4 (btL (v / 4294967296) 4) = F := ⟨_, rfl⟩
      have hA4' : IntKind.u64.wrap ((a : Int) + 4) = (A4 : Int) := by rw [← hA4]; exact wrap_ad a 4
      have hlo : bits .and .u64 v 4294967295 = v % 4294967296 := and_low HA.out.2.1 HA.out.2.2
      obtain ⟨lo, hl1⟩ : ∃ x, v % 4294967296 = x := ⟨_, rfl⟩
      rw [hl1] at hlo hLa
      have HS1 : Hid (Calls Try.prog 21 #[.pointer (some ⟨cb, 0, none⟩), .int .u64 (a : Int), .int .i64 8, .int .u64 v] w6 fun e w' => e = .returned (.int .i64 F1) ∧ C2 w w' cb cg p1 L8 db dg p2 L) := ⟨by
        rw [← hF1, ← hL8]
        refine (store_any cb cg a 8 p1 L v w6 HC2.out.x HA.out.1 (by decide)).mono ?_
        rintro e w' ⟨rfl, h1, h2⟩
        exact ⟨rfl, HC2.out.one (givL_k _ _ _ _ _) h1 h2⟩⟩
      go_upto_region 16 with (go_at_call 21; (with_reducible refine HS1.out.mono ?_); rintro e w7 ⟨he, g1⟩; subst he; have HC3 : Hid _ := ⟨g1⟩; clear g1)
      have HS2 : Hid (Calls Try.prog 21 #[.pointer (some ⟨db, 0, none⟩), .int .u64 (a : Int), .int .i64 4, .int .u64 lo] w7 fun e w' => e = .returned (.int .i64 F2) ∧ C2 w w' cb cg p1 L8 db dg p2 La) := ⟨by
        rw [← hF2, ← hLa]
        refine (store_any db dg a 4 p2 L lo w7 HC3.out.y HA.out.1 (by decide)).mono ?_
        rintro e w' ⟨rfl, h1, h2⟩
        exact ⟨rfl, HC3.out.two (givL_k _ _ _ _ _) h1 h2⟩⟩
      go_upto_region 17 with (go_at_call 21; (with_reducible refine HS2.out.mono ?_); rintro e w8 ⟨he, g1⟩; subst he; have HC4 : Hid _ := ⟨g1⟩; clear g1)
      have HS3 : Hid (Calls Try.prog 21 #[.pointer (some ⟨db, 0, none⟩), .int .u64 (A4 : Int), .int .i64 4, .int .u64 (v / 4294967296)] w8 fun e w' => e = .returned (.int .i64 F3) ∧ C2 w w' cb cg p1 L8 db dg p2 Lb) := ⟨by
        rw [← hF3, ← hLb]
        refine (store_any db dg A4 4 p2 La (v / 4294967296) w8 HC4.out.y (by rw [← hA4]; exact adW_lt _ _) (by decide)).mono ?_
        rintro e w' ⟨rfl, h1, h2⟩
        exact ⟨rfl, HC4.out.two (givL_k _ _ _ _ _) h1 h2⟩⟩
      have HH : Hid (F1 = 0 → F2 = 0 ∧ F3 = 0 ∧ L8 = Lb) := ⟨fun h => by
        rw [← hF1] at h
        have := halves_ok HC2.out.x.mz HA.out.1 (v := v) h (by rw [hl1, hLa]; exact HC4.out.y.mz)
        rw [hl1, hLa, hA4, hF2, hF3, hLb, hL8] at this
        exact this⟩
      go_upto_region 18 with (go_at_call 21; (with_reducible refine HS3.out.mono ?_); rintro e w9 ⟨he, g1⟩; subst he; have HC5 : Hid _ := ⟨g1⟩; clear g1)
      clear HS1 HS2 HS3 HC2 HC3 HC4 hF1 hF2 hF3 hL8 hLa hLb hA4 hA4' hlo hl1
      have HLv : Hid (∀ W, Below w.heap.size w W → Calls Try.prog 13 #[] W fun e w' => e = .returned (.bool true) ∧ Below w.heap.size w w') := ⟨fun W hb => by
        refine (live_any W).mono ?_
        rintro e w' ⟨rfl, h⟩
        exact ⟨rfl, hb.trans (h.mono hb.size)⟩⟩
      by_cases f1 : F1 = 0
      · obtain ⟨f2, f3, f4⟩ := HH.out f1
        subst f1 f2 f3 f4
        have HSm : Hid (Calls Try.prog 11 #[.pointer (some ⟨cb, 0, none⟩), .pointer (some ⟨db, 0, none⟩)] w9 fun e w' => e = .returned (.bool true) ∧ Below w.heap.size w w') := ⟨by
          refine (same_any cb cg db dg p1 p2 L8 L8 w9 HC5.out.x HC5.out.y).mono ?_
          rintro e w' ⟨b, rfl, h1, h2⟩
          obtain rfl : b = true := h1.2 rfl
          exact ⟨rfl, HC5.out.bel.trans (h2.mono HC5.out.bel.size)⟩⟩
        go_wp2_with (first
          | (go_at_call 18; (with_reducible refine (num_any _ _).mono ?_); rintro e wn ⟨he, hwn⟩; subst he; subst wn)
          | (go_at_call 11; (with_reducible refine HSm.out.mono ?_); rintro e wa ⟨he, hba⟩; subst he)
          | (go_at_call 13; (with_reducible refine (HLv.out _ hba).mono ?_); rintro e wb ⟨he, hbb⟩; subst he))
        go_ret
        exact ⟨rfl, hbb⟩
      · have g1 : (F1 == 0) = false := by simpa using f1
        have g2 : (F1 != 0) = true := by simpa using f1
        go_wp2_with (first
          | (go_at_call 18; (with_reducible refine (num_any _ _).mono ?_); rintro e wn ⟨he, hwn⟩; subst he; subst wn)
          | (go_at_call 13; (with_reducible refine (HLv.out _ HC5.out.bel).mono ?_); rintro e wb ⟨he, hbb⟩; subst he))
        go_ret
        exact ⟨rfl, hbb⟩
    subst e2
    have e3 : E3 ≠ 0 := fun h => e1 (hE cN rfl h)
    have d3 : (E3 == 0) = false := by simpa using e3
    go_upto_region 13 with (go_at_call 18; (with_reducible refine (num_any _ _).mono ?_); rintro e wn ⟨he, hwn⟩; subst he; subst wn)
    clear HP
    have HCP : Hid _ := HM2
    go_upto_region 14 with (go_at_call 15; (with_reducible refine (copy_any mb gb pl L _ HM2.out.1 (by have := HM2.out.2.1; omega)).mono ?_); rintro e w5 ⟨cb, cg, p1, he, g1, g2, g3⟩; subst he; have HC1 : Hid (MA w5 mb gb pl L ∧ MA w5 cb cg p1 L ∧ (∀ b, MS cb cg p1 L b → w.heap.size ≤ b) ∧ Below w.heap.size w w5) := ⟨HM2.out.1.below g3, g1, fun b hb => Nat.le_trans HM2.out.2.2.size (g2 b hb), HM2.out.2.2.trans (g3.mono HM2.out.2.2.size)⟩; clear g1 g2 g3)
    go_upto_region 15 with (go_at_call 15; (with_reducible refine (copy_any mb gb pl L _ HC1.out.1 (by have := HM2.out.2.1; omega)).mono ?_); rintro e w6 ⟨db, dg, p2, he, g1, g2, g3⟩; subst he; have HC2 : Hid (C2 w w6 cb cg p1 L db dg p2 L) := ⟨HC1.out.2.1.below g3, g1, fun b h1 h2 => by have := HC1.out.2.1.slt h1; have := g2 b h2; omega, HC1.out.2.2.1, fun b hb => Nat.le_trans HC1.out.2.2.2.size (g2 b hb), HC1.out.2.2.2.trans (g3.mono HC1.out.2.2.2.size)⟩; clear g1 g2 g3)
    clear HM2 HCP HC1
    obtain ⟨F1, hF1⟩ : ∃ F, givE L 2 61 a 8 = F := ⟨_, rfl⟩
    obtain ⟨F2, hF2⟩ : ∃ F, givE L 2 61 a 4 = F := ⟨_, rfl⟩
    obtain ⟨L8, hL8⟩ : ∃ F, givL L 2 61 a (btL v 8) = F := ⟨_, rfl⟩
    obtain ⟨La, hLa⟩ : ∃ F, givL L 2 61 a (btL (v % 4294967296) 4) = F := ⟨_, rfl⟩
    obtain ⟨A4, hA4⟩ : ∃ F, adW a 4 = F := ⟨_, rfl⟩
    obtain ⟨F3, hF3⟩ : ∃ F, givE La 2 61 A4 4 = F := ⟨_, rfl⟩
    obtain ⟨Lb, hLb⟩ : ∃ F, givL La 2 61 A4 (btL (v / 4294967296) 4) = F := ⟨_, rfl⟩
    have hA4' : IntKind.u64.wrap ((a : Int) + 4) = (A4 : Int) := by rw [← hA4]; exact wrap_ad a 4
    have hlo : bits .and .u64 v 4294967295 = v % 4294967296 := and_low HA.out.2.1 HA.out.2.2
    obtain ⟨lo, hl1⟩ : ∃ x, v % 4294967296 = x := ⟨_, rfl⟩
    rw [hl1] at hlo hLa
    have HS1 : Hid (Calls Try.prog 21 #[.pointer (some ⟨cb, 0, none⟩), .int .u64 (a : Int), .int .i64 8, .int .u64 v] w6 fun e w' => e = .returned (.int .i64 F1) ∧ C2 w w' cb cg p1 L8 db dg p2 L) := ⟨by
      rw [← hF1, ← hL8]
      refine (store_any cb cg a 8 p1 L v w6 HC2.out.x HA.out.1 (by decide)).mono ?_
      rintro e w' ⟨rfl, h1, h2⟩
      exact ⟨rfl, HC2.out.one (givL_k _ _ _ _ _) h1 h2⟩⟩
    go_upto_region 16 with (go_at_call 21; (with_reducible refine HS1.out.mono ?_); rintro e w7 ⟨he, g1⟩; subst he; have HC3 : Hid _ := ⟨g1⟩; clear g1)
    have HS2 : Hid (Calls Try.prog 21 #[.pointer (some ⟨db, 0, none⟩), .int .u64 (a : Int), .int .i64 4, .int .u64 lo] w7 fun e w' => e = .returned (.int .i64 F2) ∧ C2 w w' cb cg p1 L8 db dg p2 La) := ⟨by
      rw [← hF2, ← hLa]
      refine (store_any db dg a 4 p2 L lo w7 HC3.out.y HA.out.1 (by decide)).mono ?_
      rintro e w' ⟨rfl, h1, h2⟩
      exact ⟨rfl, HC3.out.two (givL_k _ _ _ _ _) h1 h2⟩⟩
    go_upto_region 17 with (go_at_call 21; (with_reducible refine HS2.out.mono ?_); rintro e w8 ⟨he, g1⟩; subst he; have HC4 : Hid _ := ⟨g1⟩; clear g1)
    have HS3 : Hid (Calls Try.prog 21 #[.pointer (some ⟨db, 0, none⟩), .int .u64 (A4 : Int), .int .i64 4, .int .u64 (v / 4294967296)] w8 fun e w' => e = .returned (.int .i64 F3) ∧ C2 w w' cb cg p1 L8 db dg p2 Lb) := ⟨by
      rw [← hF3, ← hLb]
      refine (store_any db dg A4 4 p2 La (v / 4294967296) w8 HC4.out.y (by rw [← hA4]; exact adW_lt _ _) (by decide)).mono ?_
      rintro e w' ⟨rfl, h1, h2⟩
      exact ⟨rfl, HC4.out.two (givL_k _ _ _ _ _) h1 h2⟩⟩
    have HH : Hid (F1 = 0 → F2 = 0 ∧ F3 = 0 ∧ L8 = Lb) := ⟨fun h => by
      rw [← hF1] at h
      have := halves_ok HC2.out.x.mz HA.out.1 (v := v) h (by rw [hl1, hLa]; exact HC4.out.y.mz)
      rw [hl1, hLa, hA4, hF2, hF3, hLb, hL8] at this
      exact this⟩
    go_upto_region 18 with (go_at_call 21; (with_reducible refine HS3.out.mono ?_); rintro e w9 ⟨he, g1⟩; subst he; have HC5 : Hid _ := ⟨g1⟩; clear g1)
    clear HS1 HS2 HS3 HC2 HC3 HC4 hF1 hF2 hF3 hL8 hLa hLb hA4 hA4' hlo hl1
    have HLv : Hid (∀ W, Below w.heap.size w W → Calls Try.prog 13 #[] W fun e w' => e = .returned (.bool true) ∧ Below w.heap.size w w') := ⟨fun W hb => by
      refine (live_any W).mono ?_
      rintro e w' ⟨rfl, h⟩
      exact ⟨rfl, hb.trans (h.mono hb.size)⟩⟩
    by_cases f1 : F1 = 0
    · obtain ⟨f2, f3, f4⟩ := HH.out f1
      subst f1 f2 f3 f4
      have HSm : Hid (Calls Try.prog 11 #[.pointer (some ⟨cb, 0, none⟩), .pointer (some ⟨db, 0, none⟩)] w9 fun e w' => e = .returned (.bool true) ∧ Below w.heap.size w w') := ⟨by
        refine (same_any cb cg db dg p1 p2 L8 L8 w9 HC5.out.x HC5.out.y).mono ?_
        rintro e w' ⟨b, rfl, h1, h2⟩
        obtain rfl : b = true := h1.2 rfl
        exact ⟨rfl, HC5.out.bel.trans (h2.mono HC5.out.bel.size)⟩⟩
      go_wp2_with (first
        | (go_at_call 18; (with_reducible refine (num_any _ _).mono ?_); rintro e wn ⟨he, hwn⟩; subst he; subst wn)
        | (go_at_call 11; (with_reducible refine HSm.out.mono ?_); rintro e wa ⟨he, hba⟩; subst he)
        | (go_at_call 13; (with_reducible refine (HLv.out _ hba).mono ?_); rintro e wb ⟨he, hbb⟩; subst he))
      go_ret
      exact ⟨rfl, hbb⟩
    · have g1 : (F1 == 0) = false := by simpa using f1
      have g2 : (F1 != 0) = true := by simpa using f1
      go_wp2_with (first
        | (go_at_call 18; (with_reducible refine (num_any _ _).mono ?_); rintro e wn ⟨he, hwn⟩; subst he; subst wn)
        | (go_at_call 13; (with_reducible refine (HLv.out _ HC5.out.bel).mono ?_); rintro e wb ⟨he, hbb⟩; subst he))
      go_ret
      exact ⟨rfl, hbb⟩
end Go.Proofs.Ytpfmnopokfiheaa

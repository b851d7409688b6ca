/- The bytes of a row. -/
import Derived.Test.YtbhdledlahbokaaLChkX
import Derived.Deep.Cut
namespace Go.Proofs.Ytbhdledlahbokaa
open Go.ChangeShapes Go.WideShapes Go.ChangeAt Go.RowKit
set_option linter.unusedVariables false
set_option linter.unusedSimpArgs false

section
variable {base : Nat} {w w1 : World} {v v1 : Value} {xs ys : List Int}
theorem Own.tyL (h : Own w base v xs) : ∀ k, v.ownBlock = some k → ∃ cur, w.heap[k]? = some (.cells cur 5 (0, 0)) := by
  intro k hk
  rcases h.2 with ⟨rfl, _⟩ | ⟨g, cap, cur, rfl, h1, h2, _⟩
  · simp [Value.ownBlock] at hk
  · simp [Value.ownBlock] at hk
    subst hk
    exact ⟨cur, h2⟩
theorem Own.not_bk {k t : Nat} {cs : Array Value} (h : Own w base v xs) (hB : Bk w k t cs) (ht : t ≠ 5) : v.ownBlock ≠ some k := fun e => by
  obtain ⟨cur, h1⟩ := h.tyL k e
  have := h1.symm.trans hB.hp
  injection this with this
  injection this with _ e3 _
  exact ht e3.symm
theorem AE.keep {k t : Nat} {cs : Array Value} (h : AE base w v w1 v1 ys) (ho : Own w base v xs) (hB : Bk w k t cs) (ht : t ≠ 5) : Bk w1 k t cs :=
  hB.of (h.gr.block k hB.lt (fun e => ho.not_bk hB ht e.symm))
end
def rV (r : Lr) : Value := .agg #[.int .i64 r.at', .int .i64 r.fi, .int .i64 r.li, .int .i64 r.co]
def rA (r : Lr) : Array Value := #[.int .i64 r.at', .int .i64 r.fi, .int .i64 r.li, .int .i64 r.co]

theorem special_any (a l : Int) (w : World) (h : -4611686018427387904 ≤ l ∧ l ≤ 4611686018427387904) (h' : -4611686018427387 ≤ a ∧ a ≤ 4611686018427387) :
    Calls Try.prog 62 #[.int .i64 a, .int .i64 l] w fun e w' => e = .returned (.int .i64 (spec a l)) ∧ w' = w := by
  have HH : Hid (wrap64 (wrap64 (wrap64 (l + 5) + wrap64 (14 * a)) + 13) = spec a l) := ⟨by unfold wrap64 spec; omega⟩
  clear h h'
  go_enter Try.func62, Try.ntmps62
  go_wp2
  go_ret
  exact ⟨ret_int HH.out, rfl⟩

set_option maxRecDepth 10000 in
theorem appendUleb_any {base : Nat} {w : World} {v : Value} {xs : List Int} (ho : Own w base v xs) (hb : base ≤ w.heap.size) (hx : xs.length ≤ 1000000000) (c n : Int) :
    Calls Try.prog 40 #[v, .int .u8 c, .int .i64 n] w fun e w' => ∃ v', e = .returned v' ∧ AE base w v w' v' (xs ++ (c :: ulB n)) := by
  have HU : Hid (∀ W, Calls Try.prog 41 #[.int .i64 n] W fun e w' => ∃ v, e = .returned v ∧ Own w' W.heap.size v (ulB n) ∧ Below W.heap.size W w') := ⟨fun W => uleb_any n W⟩
  have HO : Hid _ := ⟨ho⟩
  have HX : Hid (xs.length ≤ 1000000000 ∧ base ≤ w.heap.size) := ⟨hx, hb⟩
  have HL : Hid _ := ⟨ulB_len n⟩
  clear ho hx hb
  have tk : True := trivial
  go_enter Try.func40, Try.ntmps40
  go_wp2_with (first
    | (at_builtin; have _t := tk; refine append_bk (w.alloc (.cells #[.int .u8 c] 5)) rfl _ _ rfl base v xs rfl (HO.out.bel ((Below.refl _ _).alloc (Nat.le_refl _) _)) _ [c] rfl (bt_lit w c) (by have := HX.out.1; simp; omega) (by have := HX.out.2; simp; omega) ?_; intro v3 w3 hA3; clear tk _t; have H3 : Hid (AE base w v w3 v3 (xs ++ [c])) := ⟨AE.pre ((Below.refl _ _).alloc (Nat.le_refl _) _) hA3⟩; clear hA3)
    | (go_at_call 41; (with_reducible refine (HU.out _).mono ?_); rintro e w5 ⟨v5, he, ho5, hb5⟩; subst he; have H5 : Hid _ := ⟨ho5⟩; have HB5 : Hid _ := ⟨hb5⟩; clear ho5 hb5)
    | (at_builtin; refine append_bk w5 rfl _ _ rfl base v3 (xs ++ [c]) rfl (H3.out.own.bel HB5.out) _ (ulB n) rfl H5.out.bt (by have := HX.out.1; have := HL.out; simp; omega) (Nat.le_trans HX.out.2 (Nat.le_trans H3.out.gr.size HB5.out.size)) ?_; intro v6 w6 hA6; have H6 : Hid _ := ⟨H3.out.trans (AE.pre HB5.out hA6)⟩; clear hA6))
  go_ret
  exact ⟨_, rfl, H6.out.to (by simp)⟩

/-- Behind it nothing old turns. -/
theorem AE.post {base : Nat} {w w1 w2 : World} {v v1 : Value} {ys : List Int} (h : AE base w v w1 v1 ys) (hb : Below w1.heap.size w1 w2) : AE base w v w2 v1 ys :=
  ⟨h.own.bel hb, ⟨hb.os.trans h.gr.os, hb.tape.trans h.gr.tape, hb.output.trans h.gr.output, Nat.le_trans h.gr.size hb.size, fun k hk hn => (hb.block k (Nat.lt_of_lt_of_le hk h.gr.size)).trans (h.gr.block k hk hn)⟩, h.bk⟩
/-- One byte behind bytes. -/
theorem AE.byte {base : Nat} {w w3 : World} {v v3 : Value} {xs : List Int} {c : Int} (h : AE base (w.alloc (.cells #[.int .u8 c] 5)) v w3 v3 (xs ++ [c])) : AE base w v w3 v3 (xs ++ [c]) := AE.pre ((Below.refl _ _).alloc (Nat.le_refl _) _) h

set_option maxRecDepth 20000 in
set_option maxHeartbeats 4000000 in
theorem appendRow_any {base : Nat} {w : World} {v : Value} {xs : List Int} (ho : Own w base v xs) (hb : base ≤ w.heap.size) (hx : xs.length ≤ 100000000) (s r : Lr)
    (hs : 0 ≤ s.at' ∧ s.at' ≤ r.at' ∧ r.at' ≤ 1048576) (hls : 0 ≤ s.li ∧ s.li ≤ 2147483647) (hlr : 0 ≤ r.li ∧ r.li ≤ 2147483647) :
    Calls Try.prog 39 #[v, rV s, rV r] w fun e w' => ∃ v', e = .returned v' ∧ AE base w v w' v' (xs ++ rowR s r) := by
  obtain ⟨sa, sf, sl', sc⟩ := s
  obtain ⟨ra, rf, rl, rc⟩ := r
  dsimp only at hs hls hlr
  have HR : Hid (rowR ⟨sa, sf, sl', sc⟩ ⟨ra, rf, rl, rc⟩ = (if rf = sf then [] else 4 :: ulB rf) ++ ((if rc = sc then [] else 5 :: ulB rc) ++ tailR (ra - sa) (rl - sl'))) := ⟨rfl⟩
  generalize rowR ⟨sa, sf, sl', sc⟩ ⟨ra, rf, rl, rc⟩ = R at *
  have HX : Hid (xs.length ≤ 100000000 ∧ base ≤ w.heap.size) := ⟨hx, hb⟩
  have HU : Hid ((ulB rf).length ≤ 10 ∧ (ulB rc).length ≤ 10) := ⟨ulB_len _, ulB_len _⟩
  have hbel : Below w.heap.size w ((w.alloc (.cells #[.int .i64 sa, .int .i64 sf, .int .i64 sl', .int .i64 sc] 47)).alloc (.cells #[.int .i64 ra, .int .i64 rf, .int .i64 rl, .int .i64 rc] 47)) := ((Below.refl _ w).alloc (Nat.le_refl _) _).alloc (by simp) _
  have K4 : Bk ((w.alloc (.cells #[.int .i64 sa, .int .i64 sf, .int .i64 sl', .int .i64 sc] 47)).alloc (.cells #[.int .i64 ra, .int .i64 rf, .int .i64 rl, .int .i64 rc] 47)) w.heap.size 47 #[.int .i64 sa, .int .i64 sf, .int .i64 sl', .int .i64 sc] := (Bk.new w _ _).bel ((Below.refl _ _).alloc (Nat.le_refl _) _) (by simp)
  have K5 : Bk ((w.alloc (.cells #[.int .i64 sa, .int .i64 sf, .int .i64 sl', .int .i64 sc] 47)).alloc (.cells #[.int .i64 ra, .int .i64 rf, .int .i64 rl, .int .i64 rc] 47)) (w.heap.size + 1) 47 #[.int .i64 ra, .int .i64 rf, .int .i64 rl, .int .i64 rc] := by
    have := Bk.new (w.alloc (.cells #[.int .i64 sa, .int .i64 sf, .int .i64 sl', .int .i64 sc] 47)) #[.int .i64 ra, .int .i64 rf, .int .i64 rl, .int .i64 rc] 47
    simpa using this
  have hO0 := ho.bel hbel
  clear ho hx hb
  unfold rV
  go_enter Try.func39, Try.ntmps39
  go_upto_region 1 with (fail)
  generalize ((w.alloc (.cells #[.int .i64 sa, .int .i64 sf, .int .i64 sl', .int .i64 sc] 47)).alloc (.cells #[.int .i64 ra, .int .i64 rf, .int .i64 rl, .int .i64 rc] 47)) = V at *
  have HB : Hid _ := ⟨hbel⟩
  clear hbel
  generalize w.heap.size + 1 = B5 at *
  obtain ⟨B4, hB4⟩ : ∃ B, w.heap.size = B := ⟨_, rfl⟩
  have HB4 : Hid _ := ⟨hB4⟩
  rw [hB4] at K4 ⊢
  clear hB4
  have HA0 : Hid (AE base V v V v xs) := ⟨AE.refl hO0⟩
  have HK40 : Hid _ := ⟨K4⟩
  have HK50 : Hid _ := ⟨K5⟩
  have d0 := K4.cell 0 rfl; have d1 := K4.cell 1 rfl; have d2 := K4.cell 2 rfl; have d3 := K4.cell 3 rfl
  have g0 := K5.cell 0 rfl; have g1 := K5.cell 1 rfl; have g2 := K5.cell 2 rfl; have g3 := K5.cell 3 rfl
  clear K4 K5
  have HO : Hid _ := ⟨hO0⟩
  clear hO0
  go_upto_if 13 with (fail)
  go_cut [0] from 9 to 17 (fun s0 wx => Hid (AE base V v wx s0 (xs ++ (if rf = sf then [] else 4 :: ulB rf))))
  case first =>
    by_cases hf : rf = sf
    · subst hf
      go_wp2
      go_meet
      exact ⟨by simpa using HA0.out⟩
    · have HC : Hid _ := ⟨appendUleb_any HO.out (Nat.le_trans HX.out.2 HB.out.size) (by have := HX.out.1; omega) 4 rf⟩
      go_wp2_with (go_at_call 40; (with_reducible refine HC.out.mono ?_); rintro e w3 ⟨v3, he, hA3⟩; subst he; have H3 : Hid _ := ⟨hA3⟩; clear hA3)
      go_meet
      exact ⟨by rw [if_neg hf]; exact H3.out⟩
  case rest =>
  clear d0 d1 d2 d3 g0 g1 g2 g3 HA0
  have K4 := hcut.out.keep HO.out HK40.out (by decide)
  have K5 := hcut.out.keep HO.out HK50.out (by decide)
  have d0 := K4.cell 0 rfl; have d1 := K4.cell 1 rfl; have d2 := K4.cell 2 rfl; have d3 := K4.cell 3 rfl
  have g0 := K5.cell 0 rfl; have g1 := K5.cell 1 rfl; have g2 := K5.cell 2 rfl; have g3 := K5.cell 3 rfl
  clear K4 K5
  have HL1 : Hid ((if rf = sf then [] else 4 :: ulB rf).length ≤ 11) := ⟨by have := ulB_len rf; split <;> simp; omega⟩
  generalize (if rf = sf then [] else 4 :: ulB rf) = A1 at *
  have HA1 := hcut
  clear hcut
  go_upto_if 22 with (fail)
  go_cut [0] from 18 to 26 (fun s0 wx => Hid (AE base V v wx s0 (xs ++ A1 ++ (if rc = sc then [] else 5 :: ulB rc))))
  case first =>
    by_cases hf : rc = sc
    · subst hf
      go_wp2
      go_meet
      exact ⟨by simpa using HA1.out⟩
    · have HC : Hid _ := ⟨appendUleb_any HA1.out.own (Nat.le_trans HX.out.2 (Nat.le_trans HB.out.size HA1.out.gr.size)) (by have := HX.out.1; have := HL1.out; simp; omega) 5 rc⟩
      go_wp2_with (go_at_call 40; (with_reducible refine HC.out.mono ?_); rintro e w3 ⟨v3, he, hA3⟩; subst he; have H3 : Hid _ := ⟨hA3⟩; clear hA3)
      go_meet
      exact ⟨by rw [if_neg hf]; exact HA1.out.trans H3.out⟩
  case rest =>
  clear d0 d1 d2 d3 g0 g1 g2 g3 HA1
  have K4 := hcut.out.keep HO.out HK40.out (by decide)
  have K5 := hcut.out.keep HO.out HK50.out (by decide)
  have d0 := K4.cell 0 rfl; have d1 := K4.cell 1 rfl; have d2 := K4.cell 2 rfl; have d3 := K4.cell 3 rfl
  have g0 := K5.cell 0 rfl; have g1 := K5.cell 1 rfl; have g2 := K5.cell 2 rfl; have g3 := K5.cell 3 rfl
  clear K4 K5
  have HL2 : Hid ((if rc = sc then [] else 5 :: ulB rc).length ≤ 11) := ⟨by have := ulB_len rc; split <;> simp; omega⟩
  generalize (if rc = sc then [] else 5 :: ulB rc) = A2 at *
  have HA2 := hcut
  clear hcut
  obtain ⟨a, ha⟩ : ∃ a, wrap64 (ra - sa) = a := ⟨_, rfl⟩
  obtain ⟨l, hl⟩ : ∃ l, wrap64 (rl - sl') = l := ⟨_, rfl⟩
  have ha' : ra - sa = a := by rw [← ha]; unfold wrap64; omega
  have hl' : rl - sl' = l := by rw [← hl]; unfold wrap64; omega
  have haB : 0 ≤ a ∧ a ≤ 1048576 := by omega
  have hlB : -2147483647 ≤ l ∧ l ≤ 2147483647 := by omega
  rw [ha', hl'] at HR
  clear hs hls hlr ha' hl'
  go_upto_region 5 with (fail)
  go_quiet (fail)
  clear d0 d1 d2 d3 g0 g1 g2 g3
  have HI : Hid (∀ W, Calls Try.prog 45 #[.int .i64 l, .int .i64 (-5), .int .i64 8] W fun e w' => e = .returned (.bool (inB l (-5) 8)) ∧ w' = W) := ⟨fun W => within_any _ _ _ W⟩
  go_upto_if 39 with (go_at_call 45; (with_reducible refine (HI.out _).mono ?_); rintro e wn ⟨he, hwn⟩; subst he; subst wn)
  have HA3 : Hid (AE base V v (wc.drewN nq) u0 (xs ++ A1 ++ A2)) := ⟨HA2.out.post (below_drewN (Below.refl _ _) nq)⟩
  clear HA2
  generalize wc.drewN nq = W2 at *
  have HLs : Hid ((sl l).length ≤ 10) := ⟨sl_len10 l (by omega)⟩
  have HSl : Hid (∀ W, Calls Try.prog 61 #[.int .i64 l] W fun e w' => ∃ v, e = .returned v ∧ Own w' W.heap.size v (sl l) ∧ Below W.heap.size W w') := ⟨fun W => sleb_any l W (by omega)⟩
  obtain ⟨l2, hl2⟩ : ∃ l2, (if inB l (-5) 8 then l else 0) = l2 := ⟨_, rfl⟩
  obtain ⟨A3, hA3⟩ : ∃ A3, (if inB l (-5) 8 then [] else 3 :: sl l) = A3 := ⟨_, rfl⟩
  have hl2B : -5 ≤ l2 ∧ l2 ≤ 8 := by
    rw [← hl2]; cases h : inB l (-5) 8
    · simp
    · have := inB_of h; simpa using this
  have HT : Hid (tailR a l = A3 ++ advR a l2) := ⟨by
    rw [← hl2, ← hA3]; unfold tailR; cases inB l (-5) 8 <;> simp⟩
  rw [HT.out] at HR
  clear HT
  have HL3 : Hid (A3.length ≤ 11) := ⟨by rw [← hA3]; have := HLs.out; split <;> simp; omega⟩
  have tk : True := trivial
  go_cut [0, 8] from 37 to 45 (fun s0 s8 wx => s8 = .int .i64 l2 ∧ Hid (AE base V v wx s0 (xs ++ A1 ++ A2 ++ A3)))
  case first =>
    cases h : inB l (-5) 8
    · rw [h] at hl2 hA3
      simp only [Bool.false_eq_true, if_false] at hl2 hA3
      subst hl2 hA3
      go_wp2_with (first
        | (at_builtin; have _t := tk; refine append_bk (W2.alloc (.cells #[.int .u8 3] 5)) rfl _ _ rfl base u0 (xs ++ A1 ++ A2) rfl (HA3.out.own.bel ((Below.refl _ _).alloc (Nat.le_refl _) _)) _ [3] rfl (bt_lit W2 3) (by have := HX.out.1; have := HL1.out; have := HL2.out; simp; omega) (by have := HX.out.2; have := HB.out.size; have := HA3.out.gr.size; simp; omega) ?_; intro v3 w3 hA3; clear tk _t; have H3 : Hid (AE base V v w3 v3 (xs ++ A1 ++ A2 ++ [3])) := ⟨HA3.out.trans (AE.byte hA3)⟩; clear hA3)
        | (go_at_call 61; (with_reducible refine (HSl.out _).mono ?_); rintro e w5 ⟨v5, he, ho5, hb5⟩; subst he; have H5 : Hid _ := ⟨ho5⟩; have HB5 : Hid _ := ⟨hb5⟩; clear ho5 hb5)
        | (at_builtin; refine append_bk w5 rfl _ _ rfl base v3 (xs ++ A1 ++ A2 ++ [3]) rfl (H3.out.own.bel HB5.out) _ (sl l) rfl H5.out.bt (by have := HX.out.1; have := HL1.out; have := HL2.out; have := HLs.out; simp; omega) (by have := HX.out.2; have := HB.out.size; have := H3.out.gr.size; have := HB5.out.size; omega) ?_; intro v6 w6 hA6; have H6 : Hid (AE base V v w6 v6 (xs ++ A1 ++ A2 ++ [3] ++ sl l)) := ⟨H3.out.trans (AE.pre HB5.out hA6)⟩; clear hA6))
      go_meet
      exact ⟨rfl, ⟨H6.out.to (by simp)⟩⟩
    · rw [h] at hl2 hA3
      simp only [if_true] at hl2 hA3
      subst hl2 hA3
      go_wp2
      go_meet
      exact ⟨rfl, ⟨by simpa using HA3.out⟩⟩
  case rest =>
  obtain ⟨hs8, HA4⟩ := hcut
  subst hs8
  clear HA3 hl2 hA3 HSl HI HLs ha hl hlB
  have HUa : Hid ((ulB a).length ≤ 10) := ⟨ulB_len a⟩
  have HS0 : Hid (∀ W, Calls Try.prog 62 #[.int .i64 a, .int .i64 l2] W fun e w' => e = .returned (.int .i64 (spec a l2)) ∧ w' = W) := ⟨fun W => special_any a l2 W (by omega) (by omega)⟩
  have HS1 : Hid (∀ W, Calls Try.prog 62 #[.int .i64 (a - 17), .int .i64 l2] W fun e w' => e = .returned (.int .i64 (spec (a - 17) l2)) ∧ w' = W) := ⟨fun W => special_any (a - 17) l2 W (by omega) (by omega)⟩
  have HS2 : Hid (∀ W, Calls Try.prog 62 #[.int .i64 0, .int .i64 l2] W fun e w' => e = .returned (.int .i64 (spec 0 l2)) ∧ w' = W) := ⟨fun W => special_any 0 l2 W (by omega) (by omega)⟩
  have hw17 : wrap64 (a - 17) = a - 17 := by unfold wrap64; omega
  by_cases p1 : spec a l2 ≤ 255
  · have HD : Hid (advR a l2 = [spec a l2]) := ⟨by unfold advR; rw [if_pos p1]⟩
    have hz : 0 ≤ spec a l2 := by unfold spec; omega
    generalize spec a l2 = z at *
    have hz' : z % 256 = z := by omega
    clear hl2B haB hw17
    go_wp2_with (first
    | (go_at_call 62; (with_reducible refine (HS0.out _).mono ?_); rintro e wn ⟨he, hwn⟩; subst he; subst wn)
    | (at_builtin; refine append_bk (wc.alloc (.cells #[.int .u8 z] 5)) rfl _ _ rfl base u0 (xs ++ A1 ++ A2 ++ A3) rfl (HA4.out.own.bel ((Below.refl _ _).alloc (Nat.le_refl _) _)) _ [z] rfl (bt_lit wc z) (by have := HX.out.1; have := HL1.out; have := HL2.out; have := HL3.out; have := HUa.out; simp; omega) (by have := HX.out.2; have := HB.out.size; have := HA4.out.gr.size; simp; omega) ?_; intro v8 w8 hA8; have H8 : Hid (AE base V v w8 v8 ((xs ++ A1 ++ A2 ++ A3) ++ [z])) := ⟨HA4.out.trans (AE.byte hA8)⟩; clear hA8))
    go_ret
    exact ⟨_, rfl, (AE.pre HB.out H8.out).to (by rw [HR.out, HD.out]; simp)⟩
  by_cases p2 : 17 ≤ a ∧ spec (a - 17) l2 ≤ 255
  · have HD : Hid (advR a l2 = [8, spec (a - 17) l2]) := ⟨by unfold advR; rw [if_neg p1, if_pos p2]⟩
    have hz : 0 ≤ spec (a - 17) l2 := by unfold spec; omega
    obtain ⟨p2a, p2b⟩ := p2
    generalize spec a l2 = y at *
    generalize spec (a - 17) l2 = z at *
    have hz' : z % 256 = z := by omega
    clear hl2B haB
    go_wp2_with (first
    | (go_at_call 62; first
      | ((with_reducible refine (HS0.out _).mono ?_); rintro e wn ⟨he, hwn⟩; subst he; subst wn)
      | ((with_reducible refine (HS1.out _).mono ?_); rintro e wn ⟨he, hwn⟩; subst he; subst wn))
    | (at_builtin; have _t := tk; refine append_bk (wc.alloc (.cells #[.int .u8 8] 5)) rfl _ _ rfl base u0 (xs ++ A1 ++ A2 ++ A3) rfl (HA4.out.own.bel ((Below.refl _ _).alloc (Nat.le_refl _) _)) _ [8] rfl (bt_lit wc 8) (by have := HX.out.1; have := HL1.out; have := HL2.out; have := HL3.out; simp; omega) (by have := HX.out.2; have := HB.out.size; have := HA4.out.gr.size; simp; omega) ?_; intro v7 w7 hA7; clear tk _t; have H7 : Hid (AE base V v w7 v7 (xs ++ A1 ++ A2 ++ A3 ++ [8])) := ⟨HA4.out.trans (AE.byte hA7)⟩; clear hA7)
    | (at_builtin; refine append_bk (w7.alloc (.cells #[.int .u8 z] 5)) rfl _ _ rfl base v7 (xs ++ A1 ++ A2 ++ A3 ++ [8]) rfl (H7.out.own.bel ((Below.refl _ _).alloc (Nat.le_refl _) _)) _ [z] rfl (bt_lit w7 z) (by have := HX.out.1; have := HL1.out; have := HL2.out; have := HL3.out; have := HUa.out; simp; omega) (by have := HX.out.2; have := HB.out.size; have := H7.out.gr.size; simp; omega) ?_; intro v8 w8 hA8; have H8 : Hid (AE base V v w8 v8 ((xs ++ A1 ++ A2 ++ A3 ++ [8]) ++ [z])) := ⟨H7.out.trans (AE.byte hA8)⟩; clear hA8))
    go_ret
    exact ⟨_, rfl, (AE.pre HB.out H8.out).to (by rw [HR.out, HD.out]; simp)⟩
  · have HD : Hid (advR a l2 = 2 :: (ulB a ++ [spec 0 l2])) := ⟨by unfold advR; rw [if_neg p1, if_neg p2]⟩
    have hz : 0 ≤ spec 0 l2 ∧ spec 0 l2 ≤ 255 := by unfold spec; omega
    have HC : Hid _ := ⟨appendUleb_any HA4.out.own (Nat.le_trans HX.out.2 (Nat.le_trans HB.out.size HA4.out.gr.size)) (by have := HX.out.1; have := HL1.out; have := HL2.out; have := HL3.out; simp; omega) 2 a⟩
    by_cases p3 : 17 ≤ a
    · have p4 : ¬ spec (a - 17) l2 ≤ 255 := fun h => p2 ⟨p3, h⟩
      generalize spec a l2 = y at *
      generalize spec (a - 17) l2 = x at *
      generalize spec 0 l2 = z at *
      have hz' : z % 256 = z := by omega
      clear hl2B haB p2
      go_wp2_with (first
    | (go_at_call 62; first
      | ((with_reducible refine (HS0.out _).mono ?_); rintro e wn ⟨he, hwn⟩; subst he; subst wn)
      | ((with_reducible refine (HS1.out _).mono ?_); rintro e wn ⟨he, hwn⟩; subst he; subst wn)
      | ((with_reducible refine (HS2.out _).mono ?_); rintro e wn ⟨he, hwn⟩; subst he; subst wn))
    | (go_at_call 40; (with_reducible refine HC.out.mono ?_); rintro e w7 ⟨v7, he, hA7⟩; subst he; have H7 : Hid (AE base V v w7 v7 (xs ++ A1 ++ A2 ++ A3 ++ (2 :: ulB a))) := ⟨HA4.out.trans hA7⟩; clear hA7)
    | (at_builtin; refine append_bk (w7.alloc (.cells #[.int .u8 z] 5)) rfl _ _ rfl base v7 (xs ++ A1 ++ A2 ++ A3 ++ (2 :: ulB a)) rfl (H7.out.own.bel ((Below.refl _ _).alloc (Nat.le_refl _) _)) _ [z] rfl (bt_lit w7 z) (by have := HX.out.1; have := HL1.out; have := HL2.out; have := HL3.out; have := HUa.out; simp; omega) (by have := HX.out.2; have := HB.out.size; have := H7.out.gr.size; simp; omega) ?_; intro v8 w8 hA8; have H8 : Hid (AE base V v w8 v8 ((xs ++ A1 ++ A2 ++ A3 ++ (2 :: ulB a)) ++ [z])) := ⟨H7.out.trans (AE.byte hA8)⟩; clear hA8))
      go_ret
      exact ⟨_, rfl, (AE.pre HB.out H8.out).to (by rw [HR.out, HD.out]; simp)⟩
    · generalize spec a l2 = y at *
      generalize spec 0 l2 = z at *
      have hz' : z % 256 = z := by omega
      clear hl2B haB p2
      go_wp2_with (first
    | (go_at_call 62; first
      | ((with_reducible refine (HS0.out _).mono ?_); rintro e wn ⟨he, hwn⟩; subst he; subst wn)
      | ((with_reducible refine (HS2.out _).mono ?_); rintro e wn ⟨he, hwn⟩; subst he; subst wn))
    | (go_at_call 40; (with_reducible refine HC.out.mono ?_); rintro e w7 ⟨v7, he, hA7⟩; subst he; have H7 : Hid (AE base V v w7 v7 (xs ++ A1 ++ A2 ++ A3 ++ (2 :: ulB a))) := ⟨HA4.out.trans hA7⟩; clear hA7)
    | (at_builtin; refine append_bk (w7.alloc (.cells #[.int .u8 z] 5)) rfl _ _ rfl base v7 (xs ++ A1 ++ A2 ++ A3 ++ (2 :: ulB a)) rfl (H7.out.own.bel ((Below.refl _ _).alloc (Nat.le_refl _) _)) _ [z] rfl (bt_lit w7 z) (by have := HX.out.1; have := HL1.out; have := HL2.out; have := HL3.out; have := HUa.out; simp; omega) (by have := HX.out.2; have := HB.out.size; have := H7.out.gr.size; simp; omega) ?_; intro v8 w8 hA8; have H8 : Hid (AE base V v w8 v8 ((xs ++ A1 ++ A2 ++ A3 ++ (2 :: ulB a)) ++ [z])) := ⟨H7.out.trans (AE.byte hA8)⟩; clear hA8))
      go_ret
      exact ⟨_, rfl, (AE.pre HB.out H8.out).to (by rw [HR.out, HD.out]; simp)⟩
end Go.Proofs.Ytbhdledlahbokaa

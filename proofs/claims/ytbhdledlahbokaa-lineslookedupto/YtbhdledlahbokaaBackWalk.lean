/- P1506: what was written is read as it was. -/
import Derived.Test.YtbhdledlahbokaaLUni
import Derived.Test.YtbhdledlahbokaaLOpen
namespace Go.Proofs.Ytbhdledlahbokaa
open Go.ChangeShapes Go.WideShapes Go.ChangeAt Go.RowKit Go.Conc
set_option linter.unusedVariables false
set_option linter.unusedSimpArgs false

theorem own_no5 (w : World) (b : Nat) (hb : b ≤ w.heap.size) : Own (w.alloc (.cells #[] 5)) b (.slice (some ⟨w.heap.size, 0, none⟩) 0 0) [] :=
  ⟨rfl, .inr ⟨w.heap.size, 0, #[], rfl, hb, heap_alloc_new w _, by decide, by decide, rfl, rfl⟩⟩
/-- What Write leaves of any program, in short. -/
def WrAny (E : Int) (w : World) (e : Ending) (w' : World) : Prop := ∃ ao n c v, e = .returned (.tuple #[.slice ao n c, v, .int .i64 E]) ∧ (E = 0 ∨ n = 0) ∧ Below w.heap.size w w'
theorem write_weak (fa sa : Option Addr) (fc sc : Nat) (p : Pg) (w : World) (h : PgIn w fa sa p) :
    Calls Try.prog 8 #[.agg #[.slice fa p.files.length fc, .slice sa p.seqs.length sc]] w (WrAny (wriE p) w) := by
  refine (write_any fa sa fc sc p w h).mono fun e w' ⟨v, va, h1, h2, h3, h4⟩ => ?_
  obtain ⟨ao, c, rfl, _⟩ := h2.bt
  refine ⟨ao, _, c, va, h1, ?_, h4⟩
  by_cases h0 : wriE p = 0
  · exact .inl h0
  · right; unfold wriB; rw [if_neg h0]; rfl
theorem wri_cases (p : Pg) : wriE p = 0 ∨ (¬ wriE p = 0 ∧ (wriE p == 0) = false ∧ (wriE p != 0) = true) := by
  by_cases h : wriE p = 0
  · exact .inl h
  · exact .inr ⟨h, by simpa using h, by simpa using h⟩
section
variable (p q : Pg) (fa sa ga ta : Option Addr) (fc sc gc tc : Nat) (w : World)
/-- Both programs, boxed. -/
structure Two (w V : World) (A B : Array Value) : Prop where
  ka : Bk V w.heap.size 25 A
  kb : Bk V (w.heap.size + 1) 25 B
  bel : Below w.heap.size w V
theorem Two.new (w : World) (A B : Array Value) : Two w ((w.alloc (.cells A 25)).alloc (.cells B 25)) A B := by
  have k := Bk.new w A 25
  refine ⟨k.bel ((Below.refl _ _).alloc (Nat.le_refl _) _) k.lt, ?_, ((Below.refl _ w).alloc (Nat.le_refl _) _).alloc (by simp) _⟩
  have := Bk.new (w.alloc (.cells A 25)) B 25
  rwa [show (w.alloc (.cells A 25)).heap.size = w.heap.size + 1 by simp] at this
theorem Two.next {w V W : World} {A B : Array Value} (h : Two w V A B) (hb : Below V.heap.size V W) : Two w W A B :=
  ⟨h.ka.bel hb h.ka.lt, h.kb.bel hb h.kb.lt, h.bel.trans (hb.mono h.bel.size)⟩
end
set_option maxRecDepth 20000 in
set_option maxHeartbeats 4000000 in
theorem back_bad (p q : Pg) (fa sa ga ta : Option Addr) (fc sc gc tc : Nat) (w : World) (h1 : PgIn w fa sa p) (n1 : fa = none → fc = 0) (f1 : Few p) (h2 : PgIn w ga ta q) (n2 : ga = none → gc = 0) (f2 : Few q) (hE : ¬ (wriE p = 0 ∧ wriE q = 0)) :
    Calls Try.prog 5 #[.agg #[.slice fa p.files.length fc, .slice sa p.seqs.length sc], .agg #[.slice ga q.files.length gc, .slice ta q.seqs.length tc]] w fun e w' => e = .returned (.bool true) ∧ Below w.heap.size w w' := by
  have HT := Two.new w #[.slice fa p.files.length fc, .slice sa p.seqs.length sc] #[.slice ga q.files.length gc, .slice ta q.seqs.length tc]
  have HO1 : Hid (∀ W, Below w.heap.size w W → Calls Try.prog 7 #[.agg #[.slice fa p.files.length fc, .slice sa p.seqs.length sc]] W fun e w' => Made W e p w') := ⟨fun W hW => own_pg p fa sa fc sc W (h1.bel hW) n1 f1⟩
  have HO2 : Hid (∀ W, Below w.heap.size w W → Calls Try.prog 7 #[.agg #[.slice ga q.files.length gc, .slice ta q.seqs.length tc]] W fun e w' => Made W e q w') := ⟨fun W hW => own_pg q ga ta gc tc W (h2.bel hW) n2 f2⟩
  have HW1 : Hid (∀ W a b c d, PgIn W a c p → Calls Try.prog 8 #[.agg #[.slice a p.files.length b, .slice c p.seqs.length d]] W (WrAny (wriE p) W)) := ⟨fun W a b c d h => write_weak a c b d p W h⟩
  have HW2 : Hid (∀ W a b c d, PgIn W a c q → Calls Try.prog 8 #[.agg #[.slice a q.files.length b, .slice c q.seqs.length d]] W (WrAny (wriE q) W)) := ⟨fun W a b c d h => write_weak a c b d q W h⟩
  have hc1 := wri_cases p
  have hc2 := wri_cases q
  clear h1 h2 n1 n2 f1 f2
  generalize wriE p = E1 at *
  generalize wriE q = E2 at *
  unfold WrAny at HW1 HW2
  unfold Made at HO1 HO2
  have HB0 : Hid _ := ⟨HT.bel⟩
  have a0 := HT.ka.cell 0 rfl
  have a1 := HT.ka.cell 1 rfl
  go_enter Try.func5, Try.ntmps5
  go_upto_region 1 with (fail)
  generalize (w.alloc (.cells #[.slice fa p.files.length fc, .slice sa p.seqs.length sc] 25)).alloc (.cells #[.slice ga q.files.length gc, .slice ta q.seqs.length tc] 25) = V at *
  have HT : Hid _ := ⟨HT⟩
  go_upto_region 2 with (first
    | (go_at_call 7; (with_reducible refine (HO1.out _ HB0.out).mono ?_); rintro e w1 ⟨na, nc, ta', tc', he, hp, hb⟩; subst he; have H1 : Hid _ := ⟨hp⟩; have T1 : Hid _ := ⟨HT.out.next hb⟩; clear hp hb)
    | (go_at_call 8; (with_reducible refine (HW1.out _ _ _ _ _ H1.out).mono ?_); rintro e w2 ⟨ao, m1, c1, v1, he, hz, hb⟩; subst he; have Z1 : Hid _ := ⟨hz⟩; have T2 : Hid _ := ⟨T1.out.next hb⟩; clear hz hb))
  have b0 := T2.out.kb.cell 0 rfl
  have b1 := T2.out.kb.cell 1 rfl
  clear a0 a1
  go_upto_region 3 with (first
    | (go_at_call 7; (with_reducible refine (HO2.out _ T2.out.bel).mono ?_); rintro e w3 ⟨ra, rc, sa', sc', he, hp, hb⟩; subst he; have H3 : Hid _ := ⟨hp⟩; have T3 : Hid _ := ⟨T2.out.next hb⟩; clear hp hb)
    | (go_at_call 8; (with_reducible refine (HW2.out _ _ _ _ _ H3.out).mono ?_); rintro e w4 ⟨bo, m2, c2, v2, he, hz, hb⟩; subst he; have Z2 : Hid _ := ⟨hz⟩; have T4 : Hid _ := ⟨T3.out.next hb⟩; clear hz hb))
  clear b0 b1
  have HBw : Hid _ := ⟨T4.out.bel⟩
  rcases hc1 with rfl | ⟨e1, e2, e3⟩
  · rcases hc2 with rfl | ⟨e4, e5, e6⟩
    · exact absurd ⟨rfl, rfl⟩ hE
    · obtain rfl : m2 = 0 := by have := Z2.out; omega
      go_wp2_with (first
        | (go_at_call 11; (with_reducible refine (num_any _ _).mono ?_); rintro e wn ⟨he, hwn⟩; subst he; subst wn)
        | (go_at_call 15; (with_reducible refine (knows_any _).mono ?_); rintro e w9 ⟨he, hb9⟩; subst he; have HB9 : Hid (Below w.heap.size w w9) := ⟨HBw.out.trans (hb9.mono HBw.out.size)⟩; clear hb9))
      go_ret
      exact ⟨rfl, HB9.out⟩
  · obtain rfl : m1 = 0 := by have := Z1.out; omega
    rcases hc2 with rfl | ⟨e4, e5, e6⟩
    · go_wp2_with (first
        | (go_at_call 11; (with_reducible refine (num_any _ _).mono ?_); rintro e wn ⟨he, hwn⟩; subst he; subst wn)
        | (go_at_call 15; (with_reducible refine (knows_any _).mono ?_); rintro e w9 ⟨he, hb9⟩; subst he; have HB9 : Hid (Below w.heap.size w w9) := ⟨HBw.out.trans (hb9.mono HBw.out.size)⟩; clear hb9))
      go_ret
      exact ⟨rfl, HB9.out⟩
    · obtain rfl : m2 = 0 := by have := Z2.out; omega
      go_wp2_with (first
        | (go_at_call 11; (with_reducible refine (num_any _ _).mono ?_); rintro e wn ⟨he, hwn⟩; subst he; subst wn)
        | (go_at_call 15; (with_reducible refine (knows_any _).mono ?_); rintro e w9 ⟨he, hb9⟩; subst he; have HB9 : Hid (Below w.heap.size w w9) := ⟨HBw.out.trans (hb9.mono HBw.out.size)⟩; clear hb9))
      go_ret
      exact ⟨rfl, HB9.out⟩
theorem bytes_of {w : World} {g n c : Nat} {xs : List Int} {base : Nat} (h : Own w base (.slice (some ⟨g, 0, none⟩) n c) xs) (hn : xs.length = n) : ∀ i, i < n → w.cell? ⟨g, 0 + i, none⟩ = some (.int .u8 (xs.getD i 0)) := by
  subst hn
  intro i hi
  have h1 := h.rd (by omega)
  obtain ⟨g', c', e, _, _, _, hc⟩ := h1
  cases e
  exact hc i hi
/-- What Write leaves of a program that can be written: so many bytes. -/
def WrOkN (p : Pg) (n : Nat) (w : World) (e : Ending) (w' : World) : Prop := ∃ g c v, e = .returned (.tuple #[.slice (some ⟨g, 0, none⟩) n c, v, .int .i64 0]) ∧ n ≤ c ∧ c ≤ 9223372036854775807 ∧ Own w' w.heap.size (.slice (some ⟨g, 0, none⟩) n c) (unitR p) ∧ Below w.heap.size w w'
theorem write_okN (fa sa : Option Addr) (fc sc : Nat) (p : Pg) (w : World) (h : PgIn w fa sa p) (he : wriE p = 0) {n : Nat} (hn : (unitR p).length = n) :
    Calls Try.prog 8 #[.agg #[.slice fa p.files.length fc, .slice sa p.seqs.length sc]] w (WrOkN p n w) := by
  subst hn
  exact (write_ok fa sa fc sc p w h he).mono fun e w' ⟨g, c, v, h1, h2, h3, h4, h5, h6, h7, h8⟩ => ⟨g, c, v, h1, h3, h4, h6, h8⟩
theorem read_unitN (p : Pg) (he : wriE p = 0) {n : Nat} (hn : (unitR p).length = n) {g c base : Nat} {w0 : World} (ho : Own w0 base (.slice (some ⟨g, 0, none⟩) n c) (unitR p)) (h1 : n ≤ c) (h2 : c ≤ 9223372036854775807) (w : World) (hb : Below w0.heap.size w0 w) :
    Calls Try.prog 19 #[.slice (some ⟨g, 0, none⟩) n c] w fun e w' => ∃ fa fc sa sc, e = .returned (.tuple #[.agg #[.slice fa p.files.length fc, .slice sa p.seqs.length sc], .int .i64 0]) ∧ PgIn w' fa sa p ∧ Below w.heap.size w w' := by
  subst hn
  exact (read_unit p he g 0 c w (fun i hi => up_belL (bytes_of ho rfl i hi) hb) h1 h2).mono fun e w' ⟨fa, fc, sa, sc, k1, k2, _, _, k3⟩ => ⟨fa, fc, sa, sc, k1, k2, k3⟩
theorem bt_n {w : World} {v : Value} {xs : List Int} {g n c : Nat} {base : Nat} (h : Own w base (.slice (some ⟨g, 0, none⟩) n c) xs) : Bt w (.slice (some ⟨g, 0, none⟩) n c) xs := h.bt
set_option maxRecDepth 20000 in
set_option maxHeartbeats 4000000 in
theorem back_good (p q : Pg) (fa sa ga ta : Option Addr) (fc sc gc tc : Nat) (w : World) (h1 : PgIn w fa sa p) (n1 : fa = none → fc = 0) (f1 : Few p) (h2 : PgIn w ga ta q) (n2 : ga = none → gc = 0) (f2 : Few q) (e1 : wriE p = 0) (e2 : wriE q = 0) :
    Calls Try.prog 5 #[.agg #[.slice fa p.files.length fc, .slice sa p.seqs.length sc], .agg #[.slice ga q.files.length gc, .slice ta q.seqs.length tc]] w fun e w' => e = .returned (.bool true) ∧ Below w.heap.size w w' := by
  have HT := Two.new w #[.slice fa p.files.length fc, .slice sa p.seqs.length sc] #[.slice ga q.files.length gc, .slice ta q.seqs.length tc]
  obtain ⟨L1, hL1⟩ : ∃ n, (unitR p).length = n := ⟨_, rfl⟩
  obtain ⟨L2, hL2⟩ : ∃ n, (unitR q).length = n := ⟨_, rfl⟩
  have hs1 := (wri_ok e1).2
  have hs2 := (wri_ok e2).2
  have hp1 := unit_pos p
  have hp2 := unit_pos q
  rw [hL1] at hs1 hp1
  rw [hL2] at hs2 hp2
  have HO1 : Hid (∀ W, Below w.heap.size w W → Calls Try.prog 7 #[.agg #[.slice fa p.files.length fc, .slice sa p.seqs.length sc]] W fun e w' => Made W e p w') := ⟨fun W hW => own_pg p fa sa fc sc W (h1.bel hW) n1 f1⟩
  have HO2 : Hid (∀ W, Below w.heap.size w W → Calls Try.prog 7 #[.agg #[.slice ga q.files.length gc, .slice ta q.seqs.length tc]] W fun e w' => Made W e q w') := ⟨fun W hW => own_pg q ga ta gc tc W (h2.bel hW) n2 f2⟩
  have HW1 : Hid (∀ W a b c d, PgIn W a c p → Calls Try.prog 8 #[.agg #[.slice a p.files.length b, .slice c p.seqs.length d]] W (WrOkN p L1 W)) := ⟨fun W a b c d h => write_okN a c b d p W h e1 hL1⟩
  have HW2 : Hid (∀ W a b c d, PgIn W a c q → Calls Try.prog 8 #[.agg #[.slice a q.files.length b, .slice c q.seqs.length d]] W (WrOkN q L2 W)) := ⟨fun W a b c d h => write_okN a c b d q W h e2 hL2⟩
  have HRd : Hid (∀ {g c base w0}, Own w0 base (.slice (some ⟨g, 0, none⟩) L1 c) (unitR p) → L1 ≤ c → c ≤ 9223372036854775807 → ∀ W, Below w0.heap.size w0 W → Calls Try.prog 19 #[.slice (some ⟨g, 0, none⟩) L1 c] W fun e w' => ∃ fa fc sa sc, e = .returned (.tuple #[.agg #[.slice fa p.files.length fc, .slice sa p.seqs.length sc], .int .i64 0]) ∧ PgIn w' fa sa p ∧ Below W.heap.size W w') := ⟨fun ho k1 k2 W hb => read_unitN p e1 hL1 ho k1 k2 W hb⟩
  have HS1 : Hid (∀ W a b c d, Below w.heap.size w W → PgIn W a c p → Calls Try.prog 14 #[.agg #[.slice a p.files.length b, .slice c p.seqs.length d], .agg #[.slice fa p.files.length fc, .slice sa p.seqs.length sc]] W fun e w' => e = .returned (.bool true) ∧ Below W.heap.size W w') := ⟨fun W a b c d hW h => same_any p a c fa sa b d fc sc W h (h1.bel hW)⟩
  have HS2 : Hid (∀ W a b c d, Below w.heap.size w W → PgIn W a c q → Calls Try.prog 14 #[.agg #[.slice a q.files.length b, .slice c q.seqs.length d], .agg #[.slice ga q.files.length gc, .slice ta q.seqs.length tc]] W fun e w' => e = .returned (.bool true) ∧ Below W.heap.size W w') := ⟨fun W a b c d hW h => same_any q a c ga ta b d gc tc W h (h2.bel hW)⟩
  have HUn : Hid (L1 + L2 ≤ 1048576 → ∀ W g c base, L1 + L2 ≤ c → c ≤ 9223372036854775807 → Own W base (.slice (some ⟨g, 0, none⟩) (L1 + L2) c) (unitR p ++ unitR q) → Calls Try.prog 20 #[.slice (some ⟨g, 0, none⟩) (L1 + L2) c] W fun e w' => ∃ gx o cx a1 b1 c1 d1 a2 b2 c2 d2, e = .returned (.tuple #[.slice (some ⟨gx, o, none⟩) 2 cx, .int .i64 0]) ∧ (w'.cell? ⟨gx, o, none⟩ = some (.slice a1 p.files.length b1) ∧ w'.cell? ⟨gx, o + 1, none⟩ = some (.slice c1 p.seqs.length d1) ∧ w'.cell? ⟨gx, o + 2, none⟩ = some (.slice a2 q.files.length b2) ∧ w'.cell? ⟨gx, o + 2 + 1, none⟩ = some (.slice c2 q.seqs.length d2)) ∧ PgIn w' a1 c1 p ∧ PgIn w' a2 c2 q ∧ Below W.heap.size W w') := ⟨fun hL W g c base k1 k2 ho => by
    have hfl : [p, q].flatMap unitR = unitR p ++ unitR q := by simp
    have hlen : ([p, q].flatMap unitR).length = L1 + L2 := by rw [hfl, List.length_append, hL1, hL2]
    have hF : FewL [p, q] := fun x hx => by
      simp at hx
      rcases hx with h | h <;> rw [h] <;> assumption
    refine (units_ok [p, q] (fun x hx => ?_) (by simp) g (L1 + L2) c hlen hL k1 k2 W (fun i hi => ?_)).mono fun e w' ⟨v, he, ht, hb⟩ => ?_
    · simp at hx
      rcases hx with h | h <;> rw [h] <;> assumption
    · rw [hfl]
      exact bytes_of ho (by rw [← hfl, hlen]) i hi
    · obtain ⟨xa, xc, rfl⟩ := ht.sl
      rcases ht.pgs hF with h | ⟨b, o, rfl, h⟩
      · simp at h
      · obtain ⟨a1, b1, c1, d1, k1, k2, k3⟩ := h 0 (by simp)
        obtain ⟨a2, b2, c2, d2, k4, k5, k6⟩ := h 1 (by simp)
        simp only [Nat.zero_mul, Nat.add_zero, Nat.one_mul] at k1 k2 k4 k5
        exact ⟨b, o, xc, a1, b1, c1, d1, a2, b2, c2, d2, he, ⟨k1, k2, k4, k5⟩, k3, k6, hb⟩⟩
  clear h1 h2 n1 n2 f1 f2 e1 e2
  have HL : Hid (L1 = (unitR p).length ∧ L2 = (unitR q).length) := ⟨hL1.symm, hL2.symm⟩
  clear hL1 hL2
  unfold WrOkN at HW1 HW2
  unfold Made at HO1 HO2
  generalize unitR p = X1 at *
  generalize unitR q = X2 at *
  have HB0 : Hid _ := ⟨HT.bel⟩
  have a0 := HT.ka.cell 0 rfl
  have a1 := HT.ka.cell 1 rfl
  go_enter Try.func5, Try.ntmps5
  go_upto_region 1 with (fail)
  generalize (w.alloc (.cells #[.slice fa p.files.length fc, .slice sa p.seqs.length sc] 25)).alloc (.cells #[.slice ga q.files.length gc, .slice ta q.seqs.length tc] 25) = V at *
  have HT : Hid _ := ⟨HT⟩
  go_upto_region 2 with (first
    | (go_at_call 7; (with_reducible refine (HO1.out _ HB0.out).mono ?_); rintro e w1 ⟨na, nc, ta', tc', he, hp, hb⟩; subst he; have H1 : Hid _ := ⟨hp⟩; have T1 : Hid _ := ⟨HT.out.next hb⟩; clear hp hb)
    | (go_at_call 8; (with_reducible refine (HW1.out _ _ _ _ _ H1.out).mono ?_); rintro e w2 ⟨g1, c1, v1, he, hz1, hz2, ho, hb⟩; subst he; have Z1 : Hid _ := ⟨ho⟩; have T2 : Hid _ := ⟨T1.out.next hb⟩; clear ho hb))
  have b0 := T2.out.kb.cell 0 rfl
  have b1 := T2.out.kb.cell 1 rfl
  clear a0 a1
  go_upto_region 3 with (first
    | (go_at_call 7; (with_reducible refine (HO2.out _ T2.out.bel).mono ?_); rintro e w3 ⟨ra, rc, sa', sc', he, hp, hb⟩; subst he; have H3 : Hid _ := ⟨hp⟩; have T3 : Hid _ := ⟨T2.out.next hb⟩; have Z1b : Hid _ := ⟨Z1.out.bel hb⟩; clear hp hb)
    | (go_at_call 8; (with_reducible refine (HW2.out _ _ _ _ _ H3.out).mono ?_); rintro e w4 ⟨g2, c2, v2, he, hz3, hz4, ho, hb⟩; subst he; have Z2 : Hid _ := ⟨ho⟩; have T4 : Hid _ := ⟨T3.out.next hb⟩; have Z1c : Hid _ := ⟨Z1b.out.bel hb⟩; clear ho hb))
  clear b0 b1
  go_upto_region 5 with (first
    | (go_at_call 11; (with_reducible refine (num_any _ _).mono ?_); rintro e wn ⟨he, hwn⟩; subst he; subst wn)
    | (go_at_call 15; (with_reducible refine (knows_any _).mono ?_); rintro e w5 ⟨he, hb⟩; subst he; have T5 : Hid _ := ⟨T4.out.next hb⟩; have Z1d : Hid _ := ⟨Z1c.out.bel hb⟩; have Z2d : Hid _ := ⟨Z2.out.bel hb⟩; clear hb))
  have HR5 : Hid _ := ⟨HRd.out Z1d.out hz1 hz2 w5 (Below.refl _ _)⟩
  go_upto_region 6 with (go_at_call 19; (with_reducible refine HR5.out.mono ?_); rintro e w6 ⟨pa, pc, qa, qc, he, hp, hb⟩; subst he; have H6 : Hid _ := ⟨hp⟩; have B6 : Hid _ := ⟨hb⟩; clear hp hb)
  have hb6 : Below w5.heap.size w5 (w6.alloc (.cells #[.slice pa p.files.length pc, .slice qa p.seqs.length qc] 28)) := B6.out.alloc B6.out.size _
  have T6 : Hid _ := ⟨T5.out.next hb6⟩
  have Z1e : Hid _ := ⟨Z1d.out.bel hb6⟩
  have Z2e : Hid _ := ⟨Z2d.out.bel hb6⟩
  have H6e : Hid _ := ⟨H6.out.bel (w' := w6.alloc (.cells #[.slice pa p.files.length pc, .slice qa p.seqs.length qc] 28)) ((Below.refl _ _).alloc (Nat.le_refl _) _)⟩
  have a0 := T6.out.ka.cell 0 rfl
  have a1 := T6.out.ka.cell 1 rfl
  clear hb6
  have HSm : Hid _ := ⟨HS1.out _ pa pc qa qc T6.out.bel H6e.out⟩
  go_upto_region 8 with (first
    | (go_at_call 11; (with_reducible refine (num_any _ _).mono ?_); rintro e wn ⟨he, hwn⟩; subst he; subst wn)
    | (go_at_call 14; (with_reducible refine HSm.out.mono ?_); rintro e w7 ⟨he, hb⟩; subst he; have T7 : Hid _ := ⟨T6.out.next hb⟩; have Z1f : Hid _ := ⟨Z1e.out.bel hb⟩; have Z2f : Hid _ := ⟨Z2e.out.bel hb⟩; clear hb))
  clear a0 a1
  have w1 : wrap64 ((L1 : Int) + (L2 : Int)) = (L1 : Int) + (L2 : Int) := by unfold wrap64; omega
  by_cases hbig : (1048576 : Int) < (L1 : Int) + (L2 : Int)
  · go_wp2
    go_ret
    exact ⟨rfl, T7.out.bel⟩
  · have hO0 : Own (w7.alloc (.cells #[] 5)) w7.heap.size (.slice (some ⟨w7.heap.size, 0, none⟩) 0 0) [] := own_no5 w7 _ (Nat.le_refl _)
    have HO0 : Hid _ := ⟨hO0⟩
    have B8 : Hid (Below w7.heap.size w7 (w7.alloc (.cells #[] 5))) := ⟨(Below.refl _ _).alloc (Nat.le_refl _) _⟩
    have hx1 : X1.length ≤ 1048576 := by have := HL.out; omega
    have hxl : (X1 ++ X2).length = L1 + L2 := by rw [List.length_append]; have := HL.out; omega
    have hsum : L1 + L2 ≤ 1048576 := by omega
    have hx2 : X1.length + X2.length ≤ 1048576 := by have := HL.out; omega
    clear hO0
    go_upto_region 11 with (first
      | (at_builtin; (refine append_bk (w7.alloc (.cells #[] 5)) rfl _ _ rfl w7.heap.size (.slice (some ⟨w7.heap.size, 0, none⟩) 0 0) [] (by rfl) HO0.out (.slice (some ⟨g1, 0, none⟩) L1 c1) X1 (by rfl) (Z1f.out.bel B8.out).bt (by simp; omega) B8.out.size ?_); intro v9 w9 hA; rw [List.nil_append] at hA; have A9 : Hid _ := ⟨hA⟩; have B9 : Hid (Below w7.heap.size w7 w9) := ⟨B8.out.trans (hA.bel HO0.out B8.out.size)⟩; clear hA)
      | (at_builtin; (refine append_bk w9 rfl _ _ rfl w7.heap.size v9 X1 (by rfl) A9.out.own (.slice (some ⟨g2, 0, none⟩) L2 c2) X2 (by rfl) (Z2f.out.bel B9.out).bt (by omega) B9.out.size ?_); intro v10 w10 hA; have A10 : Hid _ := ⟨hA⟩; have B10 : Hid (Below w7.heap.size w7 w10) := ⟨B9.out.trans (hA.bel A9.out.own B9.out.size)⟩; obtain ⟨g10, c10, hv, _, hk1, hk2, _⟩ := hA.own.rd (by rw [hxl]; omega); rw [hxl] at hv hk1; subst hv; have U10 : Hid _ := ⟨HUn.out hsum w10 g10 c10 w7.heap.size hk1 hk2 hA.own⟩; clear hA)
      | (go_at_call 20; (with_reducible refine U10.out.mono ?_); rintro e w11 ⟨gx, o, cx, a1, b1, k1, d1, a2, b2, k2, d2, he, ⟨y0, y1, y2, y3⟩, hP1, hP2, hb⟩; subst he; have T11 : Hid _ := ⟨T7.out.next (B10.out.trans (hb.mono B10.out.size))⟩; have P1 : Hid _ := ⟨hP1⟩; have P2 : Hid _ := ⟨hP2⟩; clear hP1 hP2 hb))
    have x0 := T11.out.ka.cell 0 rfl
    have x1 := T11.out.ka.cell 1 rfl
    have z0 := T11.out.kb.cell 0 rfl
    have z1 := T11.out.kb.cell 1 rfl
    have HB11 : Hid (Below w11.heap.size w11 w11.drew) := ⟨(Below.refl _ _).drew⟩
    have x0' := up_belL x0 HB11.out
    have x1' := up_belL x1 HB11.out
    have z0' := up_belL z0 HB11.out
    have z1' := up_belL z1 HB11.out
    have y0' := up_belL y0 HB11.out
    have y1' := up_belL y1 HB11.out
    have y2' := up_belL y2 HB11.out
    have y3' := up_belL y3 HB11.out
    have HSa : Hid (∀ W, Below w11.heap.size w11 W → Calls Try.prog 14 #[.agg #[.slice a1 p.files.length b1, .slice k1 p.seqs.length d1], .agg #[.slice fa p.files.length fc, .slice sa p.seqs.length sc]] W fun e w' => e = .returned (.bool true) ∧ Below W.heap.size W w') := ⟨fun W hW => HS1.out W a1 b1 k1 d1 (T11.out.next hW).bel (P1.out.bel hW)⟩
    have HSb : Hid (∀ W, Below w11.heap.size w11 W → Calls Try.prog 14 #[.agg #[.slice a2 q.files.length b2, .slice k2 q.seqs.length d2], .agg #[.slice ga q.files.length gc, .slice ta q.seqs.length tc]] W fun e w' => e = .returned (.bool true) ∧ Below W.heap.size W w') := ⟨fun W hW => HS2.out W a2 b2 k2 d2 (T11.out.next hW).bel (P2.out.bel hW)⟩
    clear x0 x1 z0 z1 y0 y1 y2 y3 HS1 HS2 HUn HRd HW1 HW2 HO1 HO2
    go_region_held3 (fun v => v.cell? ⟨w.heap.size, 0, none⟩ = some (.slice fa p.files.length fc) ∧ v.cell? ⟨w.heap.size, 1, none⟩ = some (.slice sa p.seqs.length sc) ∧ v.cell? ⟨w.heap.size + 1, 0, none⟩ = some (.slice ga q.files.length gc) ∧ v.cell? ⟨w.heap.size + 1, 1, none⟩ = some (.slice ta q.seqs.length tc) ∧ v.cell? ⟨gx, o, none⟩ = some (.slice a1 p.files.length b1) ∧ v.cell? ⟨gx, o + 1, none⟩ = some (.slice k1 p.seqs.length d1) ∧ v.cell? ⟨gx, o + 2, none⟩ = some (.slice a2 q.files.length b2) ∧ v.cell? ⟨gx, o + 2 + 1, none⟩ = some (.slice k2 q.seqs.length d2))
      (first | (with_reducible assumption) | exact ⟨c_0, c_1, c_2, c_3, c_4, c_5, c_6, c_7⟩ | exact ⟨a_0, a_1, a_2, a_3, a_4, a_5, a_6, a_7⟩ | exact ⟨x0', x1', z0', z1', y0', y1', y2', y3'⟩)
      (first
        | (go_at_call 11; (with_reducible refine (num_any _ _).mono ?_); rintro e wn ⟨rfl, rfl⟩)
        | (go_at_call 14; (with_reducible refine (HSa.out _ HB11.out).mono ?_); rintro e u ⟨rfl, hu⟩; have HU1 : Hid (Below w11.heap.size w11 u) := ⟨HB11.out.trans (hu.mono HB11.out.size)⟩; have a_0 := up_belL x0' hu; have a_1 := up_belL x1' hu; have a_2 := up_belL z0' hu; have a_3 := up_belL z1' hu; have a_4 := up_belL y0' hu; have a_5 := up_belL y1' hu; have a_6 := up_belL y2' hu; have a_7 := up_belL y3' hu; clear hu)
        | (go_at_call 14; (with_reducible refine (HSb.out _ HU1.out).mono ?_); rintro e u2 ⟨rfl, hu⟩; have HU2 : Hid (Below w11.heap.size w11 u2) := ⟨HU1.out.trans (hu.mono HU1.out.size)⟩; have c_0 := up_belL a_0 hu; have c_1 := up_belL a_1 hu; have c_2 := up_belL a_2 hu; have c_3 := up_belL a_3 hu; have c_4 := up_belL a_4 hu; have c_5 := up_belL a_5 hu; have c_6 := up_belL a_6 hu; have c_7 := up_belL a_7 hu; clear hu))
    all_goals (go_wp2; go_ret; exact ⟨rfl, T11.out.bel.trans (HU2.out.mono T11.out.bel.size)⟩)
theorem linesBack_walk (fa : Option Addr) (fc : Nat) (sa : Option Addr) (sc : Nat) (p : Pg) (ga : Option Addr) (gc : Nat) (ta : Option Addr) (tc : Nat) (q : Pg) (w : World) (h1 : PgIn w fa sa p ∧ (fa = none → fc = 0) ∧ Few p ∧ ∀ x ∈ p.seqs, BndQ x) (h2 : PgIn w ga ta q ∧ (ga = none → gc = 0) ∧ Few q ∧ ∀ x ∈ q.seqs, BndQ x) :
    Calls Try.prog 5 #[.agg #[.slice fa p.files.length fc, .slice sa p.seqs.length sc], .agg #[.slice ga q.files.length gc, .slice ta q.seqs.length tc]] w fun e w' => e = .returned (.bool true) ∧ Below w.heap.size w w' := by
  by_cases hE : wriE p = 0 ∧ wriE q = 0
  · exact back_good p q fa sa ga ta fc sc gc tc w h1.1 h1.2.1 h1.2.2.1 h2.1 h2.2.1 h2.2.2.1 hE.1 hE.2
  · exact back_bad p q fa sa ga ta fc sc gc tc w h1.1 h1.2.1 h1.2.2.1 h2.1 h2.2.1 h2.2.2.1 hE
end Go.Proofs.Ytbhdledlahbokaa

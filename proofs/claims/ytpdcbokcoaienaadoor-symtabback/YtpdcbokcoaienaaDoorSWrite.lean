/- The contract of Write. -/
import Derived.Test.YtpdcbokcoaienaaDoorSWriteP
import Derived.Test.YtpdcbokcoaienaaDoorSRAt
import Derived.Deep.RegionHeld3
import Derived.Deep.Onto
namespace Go.Proofs.YtpdcbokcoaienaaDoor
open Go.ChangeShapes Go.WideShapes Go.ChangeAt Go.RowKit Go.Maps
set_option linter.unusedVariables false
set_option linter.unusedSimpArgs false

theorem results_tmp4 {fn : Func} {t u v x : Tmp} (h : fn.results = #[.tmp t, .tmp u, .tmp v, .tmp x]) (tmps : Array Value) (P : Program) (w : World) :
    (results fn tmps).run P w = .ok (.tuple #[tmps.getD t undef, tmps.getD u undef, tmps.getD v undef, tmps.getD x undef]) w := by
  simp [results, h]

theorem map_turn {w w' : World} {S : Nat → Prop} (ht : Turn S w w') {mb n : Nat} {D : DataW Value} (h : w.ownsMap Tryd.prog 9 RV mb n D) (hs : ¬ S mb) : w'.ownsMap Tryd.prog 9 RV mb n D := by
  have hl := h.lt
  obtain ⟨es, clock, hb, r⟩ := h
  exact ⟨es, clock, by rw [ht.block mb hl hs]; exact hb, r⟩
theorem map_look {w : World} {mb n : Nat} {D : DataW Value} {m : ByteArray → Option Int} (h : w.ownsMap Tryd.prog 9 RV mb n D) (hi : Inv D m) (s : ByteArray) (hs : s.size ≤ maxLen) :
    (Instr.lookup 49 (.map (some mb)) (.string s) false).run Tryd.prog w = .ok (.int .i64 ((m s).getD 0)) w := by
  obtain ⟨v, ps, hrun, hv⟩ := h.lookup law9 Tryd.underlying49 (zero3 w) (zd := .held (.int .i64 0)) (zp := []) rfl (key9 hs)
  have := held_inj hv (hi.at' s).2
  rw [this] at hrun
  exact hrun

/-- All that lies in memory while entries are written: their bytes vy, the symbols S in order, their names' bytes b in vs and places A, the map. -/
structure WA (w wr : World) (vy vs va vo : Value) (mb : Nat) (xs b : List Int) (A : List Int) (S : List Sym) (m : ByteArray → Option Int) : Prop where
  y : Own wr w.heap.size vy xs
  s : Own wr w.heap.size vs b
  ap : Apart vs vy
  a : OwnI wr w.heap.size va A
  o : OwnY wr w.heap.size vo S
  mp : ∃ n D, wr.ownsMap Tryd.prog 9 RV mb n D ∧ Inv D m
  lo : w.heap.size ≤ mb
  fz : Fz wr
  bel : Below w.heap.size w wr

theorem WA.not_map {w wr : World} {vy vs va vo : Value} {mb : Nat} {xs b : List Int} {A : List Int} {S : List Sym} {m : ByteArray → Option Int} (h : WA w wr vy vs va vo mb xs b A S m) : vy.ownBlock ≠ some mb := by
  obtain ⟨n, D, ho, _⟩ := h.mp
  exact fun e => own_nm h.y ho e.symm

theorem WA.alloc {w wr : World} {vy vs va vo : Value} {mb : Nat} {xs b : List Int} {A : List Int} {S : List Sym} {m : ByteArray → Option Int} (h : WA w wr vy vs va vo mb xs b A S m) (o : Obj) : WA w (wr.alloc o) vy vs va vo mb xs b A S m := by
  obtain ⟨n, D, ho, hi⟩ := h.mp
  exact ⟨World.ownsRow.alloc h.y o, World.ownsRow.alloc h.s o, h.ap, World.ownsRow.alloc h.a o, World.ownsRow.alloc h.o o, ⟨n, D, ho.alloc o, hi⟩, h.lo, h.fz.turn ((Turn.refl (fun _ => False) _).alloc o) (fun e => e), h.bel.alloc h.bel.size o⟩
theorem WA.drew {w wr : World} {vy vs va vo : Value} {mb : Nat} {xs b : List Int} {A : List Int} {S : List Sym} {m : ByteArray → Option Int} (h : WA w wr vy vs va vo mb xs b A S m) : WA w wr.drew vy vs va vo mb xs b A S m := by
  obtain ⟨n, D, ho, hi⟩ := h.mp
  exact ⟨h.y, h.s, h.ap, h.a, h.o, ⟨n, D, ho.drew, hi⟩, h.lo, ⟨h.fz.z, h.fz.c0, h.fz.c1, h.fz.c2, h.fz.c3, h.fz.c4, h.fz.c5⟩, h.bel.drew⟩
theorem WA.step {w wr w' : World} {vy vs va vo v' : Value} {mb : Nat} {xs ys b : List Int} {A : List Int} {S : List Sym} {m : ByteArray → Option Int} (h : WA w wr vy vs va vo mb xs b A S m) (hr : Own w' w.heap.size v' ys) (st : Step wr w' vy v') (h0 : 0 < w.heap.size) : WA w w' v' vs va vo mb ys b A S m := by
  obtain ⟨n, D, ho, hi⟩ := h.mp
  have k1 := st.keep h.s h.ap
  have k2 := st.keep h.a (own_apart' (by decide) h.y h.a)
  have k3 := st.keep h.o (own_apart' (by decide) h.y h.o)
  exact ⟨hr, k1.1, k1.2, k2.1, k3.1, ⟨n, D, map_turn st.turn ho h.not_map, hi⟩, h.lo, h.fz.turn st.turn (fun e => by have := (h.y.lt 0 e).1; omega), h.bel.trans (st.below h.y h.bel.size)⟩

theorem WA.facts {w wr : World} {vy vs vo : Value} {mb g n c : Nat} {xs b : List Int} {A : List Int} {S : List Sym} {m : ByteArray → Option Int} (h : WA w wr vy vs (.slice (some ⟨g, 0, none⟩) n c) vo mb xs b A S m) {k : Nat} (hk : k < A.length) {sc : ByteArray} (hs : sc.size ≤ maxLen) :
    wr.cell? ⟨g, k, none⟩ = some (.int .i64 (A.getD k 0)) ∧ (Instr.lookup 49 (.map (some mb)) (.string sc) false).run Tryd.prog wr = .ok (.int .i64 ((m sc).getD 0)) wr := by
  obtain ⟨n', D, ho, hi⟩ := h.mp
  refine ⟨?_, map_look ho hi sc hs⟩
  obtain ⟨aa2, ca2, hv3, hI3⟩ := h.a.ints
  simp only [Value.slice.injEq] at hv3
  obtain ⟨e1, _, rfl⟩ := hv3
  rcases hI3 with h | ⟨g', e, h⟩
  · rw [h] at hk; simp at hk
  · rw [← e1] at e
    simp only [Option.some.injEq, Addr.mk.injEq] at e
    obtain ⟨rfl, _⟩ := e
    exact h k hk

/-- How Write ends where Check takes the symbols. -/
def WOk (l : List Sym) (m : ByteArray → Option Int) (b A : List Int) (w : World) (e : Ending) (w' : World) : Prop :=
  ∃ vy vs, e = .returned (.tuple #[vy, vs, .int .i64 (1 + (locs l).length), .int .i64 0]) ∧ Own w' w.heap.size vy (symsB (ordL l) A m) ∧ Own w' w.heap.size vs b ∧ Apart vs vy ∧ Below w.heap.size w w'

theorem write_bad (ao a2 : Option Addr) (c c2 : Nat) (l : List Sym) (ss : List ByteArray) (w : World) (hl : l.length ≤ 8796093022207) (hl2 : ss.length ≤ 8796093022208) (hr : Syms w ao l) (hs : Strs w a2 ss) (hsz : SZ l) (hz2 : ∀ s ∈ ss, s.size ≤ 9223372036854775807) (hc : (checkE l ss == 0) = false) :
    Calls Tryd.prog 6 #[.slice ao l.length c, .slice a2 ss.length c2] w fun e w' => e = .returned (.tuple #[.slice none 0 0, .slice none 0 0, .int .i64 0, .int .i64 (checkE l ss)]) ∧ Below w.heap.size w w' := by
  have C := check_any ao a2 c c2 l ss w hl hl2 hr hs hsz hz2
  have HC : Hid _ := ⟨C⟩
  generalize checkE l ss = x at *
  clear C hr hs hsz hz2
  go_enter Tryd.func6, Tryd.ntmps6
  go_wp2_with (go_at_call 9; refine HC.out.mono ?_; rintro e w1 ⟨rfl, hb1⟩)
  (try simp only [Exit.inBlock, Exit.then])
  refine bodyPost_ret (results_tmp4 rfl _ _ _) rfl ?_
  exact ⟨rfl, hb1⟩

theorem made24 : (madeCells (Value.int .u8 0).cells (24 * 1)).toList = zeros24.map (Value.int .u8) := by kernel_rfl

set_option maxHeartbeats 4000000 in
set_option maxRecDepth 10000 in
theorem write_ok (ao a2 : Option Addr) (c c2 : Nat) (l : List Sym) (ss : List ByteArray) (w : World) (hl : l.length ≤ 8796093022207) (hl2 : ss.length ≤ 8796093022208) (hr : Syms w ao l) (hs : Strs w a2 ss) (hsz : SZ l) (hz2 : ∀ s ∈ ss, s.size ≤ 9223372036854775807) (hf : Fz w)
    (hc : checkE l ss = 0) (m : ByteArray → Option Int) (hm : numM ss = some m) (b A : List Int) (hst : strM ((ordL l).map Sym.nm) = .ok (b, A)) :
    Calls Tryd.prog 6 #[.slice ao l.length c, .slice a2 ss.length c2] w fun e w' => WOk l m b A w e w' := by
  have C := check_any ao a2 c c2 l ss w hl hl2 hr hs hsz hz2
  obtain ⟨n1, n2, n3, n4, m', hm', hu, hrg, hall⟩ := check_ok hc
  rw [hm] at hm'
  cases hm'
  rw [hc] at C
  obtain ⟨_, _, T, hT, g, hTl⟩ := strM_ok hst
  have HC : Hid _ := ⟨C⟩
  have HL : Hid (∀ w', Below w.heap.size w w' → Calls Tryd.prog 16 #[.slice ao l.length c] w' fun e w'' => ∃ v, e = .returned (.tuple #[v, .int .i64 (locs l).length]) ∧ OwnY w'' w'.heap.size v (ordL l) ∧ Below w'.heap.size w' w'') := ⟨fun w' h => localsFirst_any ao c l w' n1 (hr.below h (Nat.le_refl _))⟩
  have HN : Hid (∀ a' c' w', Syms w' a' (ordL l) → Calls Tryd.prog 18 #[.slice a' (ordL l).length c'] w' fun e w'' => ∃ a3 c3, e = .returned (.slice a3 ((ordL l).map Sym.nm).length c3) ∧ Strs w'' a3 ((ordL l).map Sym.nm) ∧ Below w'.heap.size w' w'') := ⟨fun a' c' w' h => (namesOf_any a' c' (ordL l) w' (by rw [ordL_len]; omega) h).mono (by
    rintro e w'' ⟨v, rfl, ho, hb⟩
    obtain ⟨a3, c3, rfl, _, _, hst, _⟩ := ho.any
    exact ⟨a3, c3, rfl, hst, hb⟩)⟩
  have HS : Hid (∀ a' c' w', Strs w' a' ((ordL l).map Sym.nm) → Calls Tryd.prog 17 #[.slice a' ((ordL l).map Sym.nm).length c'] w' fun e w'' => ∃ vb va, e = .returned (.tuple #[vb, va, .int .i64 0]) ∧ Own w'' w'.heap.size vb b ∧ OwnI w'' w'.heap.size va A ∧ Below w'.heap.size w' w'') := ⟨fun a' c' w' h => by
    have := strings_any a' c' ((ordL l).map Sym.nm) w' (by rw [List.length_map, ordL_len]; omega) h
    rw [hst] at this
    exact this⟩
  have HM : Hid (∀ w', Below w.heap.size w w' → Calls Tryd.prog 19 #[.slice a2 ss.length c2] w' fun e w'' => ∃ mb n D, e = .returned (.tuple #[.map (some mb), .bool true]) ∧ w''.ownsMap Tryd.prog 9 RV mb n D ∧ Inv D m ∧ w'.heap.size ≤ mb ∧ Below w'.heap.size w' w'') := ⟨fun w' h => by
    have := numbersOf_any a2 c2 ss w' hl2 (hs.below h (Nat.le_refl _)) hz2
    rw [hm] at this
    exact this⟩
  have HEN : Hid (∀ i, i < (ordL l).length → EntOk ((ordL l).getD i Sym.none) (A.getD i 0) ((m ((ordL l).getD i Sym.none).sc).getD 0) ∧ ((ordL l).getD i Sym.none).sc.size ≤ maxLen) := ⟨fun i hi => by
    have hg : (ordL l).getD i Sym.none = (ordL l)[i] := by simp [hi]
    have hmem : (ordL l).getD i Sym.none ∈ l := by rw [hg]; exact ordL_mem (List.getElem_mem hi)
    have h1 := hall _ hmem
    refine ⟨ent_ok h1.2 ?_ ?_, ?_⟩
    · have := g.place i (by simpa using hi)
      omega
    · cases hh : m ((ordL l).getD i Sym.none).sc with
      | none => rw [hh] at h1; simp at h1
      | some p => simpa using hrg _ _ hh
    · have := (hsz _ hmem).2
      unfold maxLen; omega⟩
  have hAl : A.length = (ordL l).length := by rw [g.len]; simp
  have hSl : (ordL l).length ≤ 2000 := by rw [ordL_len]; exact n1
  have HF : Hid _ := ⟨hf⟩
  have hf0 := hf.z
  have hloc : (locs l).length ≤ 2000 := Nat.le_trans (List.length_filter_le _ _) n1
  unfold WOk symsB
  generalize hNM : (ordL l).map Sym.nm = NM at *
  generalize locs l = LO at *
  generalize ordL l = S at *
  clear hNM
  obtain ⟨i0, hi, hz0, hz1, hz2'⟩ := info_parts info5
  have tk : True := trivial
  clear C hr hs hsz hz2 hf hc hm hst n3 n4 hu hrg hall hT g
  go_enter Tryd.func6, Tryd.ntmps6
  go_wp2_with (first
    | (go_at_call 9; refine HC.out.mono ?_; rintro e w1 ⟨rfl, hb1⟩)
    | (go_at_call 16; (with_reducible refine (HL.out _ hb1).mono ?_); rintro e w2 ⟨vo, rfl, ho2, hb2⟩; have B2 := hb1.trans (hb2.mono hb1.size); obtain ⟨ao2, co2, hvo, _, _, hso, _⟩ := ho2.any; subst hvo)
    | (go_at_call 18; (with_reducible refine (HN.out _ _ _ hso).mono ?_); rintro e w3 ⟨a3, c3, rfl, hs3, hb3⟩; have B3 := B2.trans (hb3.mono B2.size))
    | (go_at_call 17; (with_reducible refine (HS.out _ _ _ hs3).mono ?_); rintro e w4 ⟨vs, va, rfl, hs4, ha4, hb4⟩; have B4 := B3.trans (hb4.mono B3.size))
    | (go_at_call 19; (with_reducible refine (HM.out _ B4).mono ?_); rintro e w5 ⟨mb, nn, D, rfl, hm5, hi5, hlo5, hb5⟩; have B5 := B4.trans (hb5.mono B4.size))
    | (at_make; refine wpList_make_full w5 rfl _ _ 24 rfl w5.heap.size 5 i0 (.int .u8 0) 1 Tryd.underlying24 hi hz0 hz1 .i64 .i64 24 24 24 rfl rfl rfl rfl (by rw [hz2']; decide) (by decide) (Nat.le_refl _) ?_; intro w6 hy6 hg6))
  have t6 : Turn (fun _ => False) w5 w6 := (Turn.refl _ w5).grown hg6 (fun k _ e => by cases e)
  have nf : ∀ (v : Value) (k : Nat), v.ownBlock = some k → ¬ (fun _ : Nat => False) k := fun _ _ _ h => h
  have s5 := (Turn.of_below hb5 (fun _ => False)).row hs4 (nf vs)
  have a5 := (Turn.of_below hb5 (fun _ => False)).row ha4 (nf va)
  have o3 := (Turn.of_below hb3 (fun _ => False)).row ho2 (nf _)
  have o4 := (Turn.of_below hb4 (fun _ => False)).row o3 (nf _)
  have o5 := (Turn.of_below hb5 (fun _ => False)).row o4 (nf _)
  have b13 : w.heap.size ≤ w3.heap.size := B3.size
  have b11 : w.heap.size ≤ w1.heap.size := hb1.size
  have b15 : w.heap.size ≤ w5.heap.size := B5.size
  have b45 : w4.heap.size ≤ w5.heap.size := hb5.size
  have hAp : Apart vs (.slice (some ⟨w5.heap.size, 0, none⟩) 24 24) := fun k h1 h2 => by
    have := (hs4.lt k h1).2
    simp only [Value.ownBlock, Option.some.injEq] at h2
    omega
  have W6 : WA w w6 (.slice (some ⟨w5.heap.size, 0, none⟩) 24 24) vs va (.slice ao2 S.length co2) mb zeros24 b A S m := by
    refine ⟨?_, (t6.row s5 (nf _)).mono b13, hAp, (t6.row a5 (nf _)).mono b13, (t6.row o5 (nf _)).mono b11, ⟨nn, D, map_turn t6 hm5 (fun h => h), hi5⟩, Nat.le_trans B4.size hlo5, HF.out.bel (B5.trans (t6.below b15 (fun _ h => h.elim))) hf0, B5.trans (t6.below b15 (fun _ h => h.elim))⟩
    rw [made24] at hy6
    exact World.ownsRow.mono hy6 b15
  obtain ⟨aa, ca, hva, _⟩ := ha4.ints
  subst hva
  rw [hAl]
  have HW6 : Hid _ := ⟨W6⟩
  clear W6 hAp s5 a5 o3 o4 o5 b13 b11 b15 b45 t6 nf hs4 ha4 ho2 hso hs3 hm5 hi5 hlo5 hb1 hb2 hb3 hb4 hb5 B2 B3 B4 B5 hy6 hg6
  clear HC HL HN HS HM HF
  go_loopw [42, 4] (fun i vy wr => ∃ k : Nat, k ≤ S.length ∧ i = .int .i64 k ∧ Hid (WA w wr vy vs (.slice aa A.length ca) (.slice ao2 S.length co2) mb (zeros24 ++ entsN S A m k) b A S m)) (fun i _ _ => S.length - (intOf i).toNat)
  case atStart => exact ⟨0, by omega, rfl, ⟨by simpa [entsN] using HW6.out⟩⟩
  case round =>
    obtain ⟨k, hk, rfl, HWA⟩ := hrel
    by_cases hlt : k < S.length
    · obtain ⟨b1, off, rfl, hcell⟩ : ∃ b off, ao2 = some ⟨b, off, none⟩ ∧ ∀ i, i < S.length → SymAt wr b (off + i * 6) (S.getD i Sym.none) := by
        obtain ⟨ao3, co3, hv3, _, _, hS3, _⟩ := HWA.out.o.any
        simp only [Value.slice.injEq] at hv3
        obtain ⟨rfl, _, rfl⟩ := hv3
        rcases hS3 with h | h
        · subst h; simp at hlt
        · exact h
      obtain ⟨g1, rfl, hac⟩ : ∃ g, aa = some ⟨g, 0, none⟩ ∧ wr.cell? ⟨g, k, none⟩ = some (.int .i64 (A.getD k 0)) := by
        obtain ⟨aa2, ca2, hv3, hI3⟩ := HWA.out.a.ints
        simp only [Value.slice.injEq] at hv3
        obtain ⟨rfl, _, rfl⟩ := hv3
        rcases hI3 with h | ⟨g, e, h⟩
        · rw [h] at hAl; simp at hAl; omega
        · exact ⟨g, e, h k (by omega)⟩
      obtain ⟨c0, c1, c2', c3, c4, c5⟩ := hcell k hlt
      obtain ⟨hen, hsc⟩ := HEN.out k hlt
      have hsuc := entsN_succ S A m k
      have hln : (zeros24 ++ entsN S A m k).length ≤ 1048576 := by
        rw [List.length_append, entsN_len]
        simp [zeros24]; omega
      have hkA : k < A.length := by omega
      generalize S.getD k Sym.none = s at *
      have HFA : Hid (∀ w' vy' ys, WA w w' vy' vs (.slice (some ⟨g1, 0, none⟩) A.length ca) (.slice (some ⟨b1, off, none⟩) S.length co2) mb ys b A S m → w'.cell? ⟨g1, k, none⟩ = some (.int .i64 (A.getD k 0)) ∧ (Instr.lookup 49 (.map (some mb)) (.string s.sc) false).run Tryd.prog w' = .ok (.int .i64 ((m s.sc).getD 0)) w') := ⟨fun w' vy' ys h => h.facts hkA hsc⟩
      generalize A.getD k 0 = a at *
      generalize (m s.sc).getD 0 = nu at *
      have AE := fun (w' : World) (h1 : Own w' w.heap.size u4 (zeros24 ++ entsN S A m k)) (h2 : w.heap.size ≤ w'.heap.size) (h3 : Fz w') => appendEntry_any u4 (zeros24 ++ entsN S A m k) w.heap.size s a nu w' h1 h2 hf0 hln h3 hen
      have HAE : Hid _ := ⟨AE⟩
      have HSU : Hid _ := ⟨hsuc⟩
      obtain ⟨nm, sc, v, z, bd, ty⟩ := s
      dsimp only [Sym.val] at *
      have hnB : u4.ownBlock ≠ some wr.heap.size := fun e => by have := (HWA.out.y.lt _ e).2; omega
      have i1 : (0 : Int) ≤ (k : Int) := by omega
      have i2 : (k : Int) < (S.length : Int) := by omega
      clear hcell hen hsc hsuc AE hln
      go_wp2
      generalize hV : wr.alloc (.cells #[.string nm, .string sc, .int .i64 v, .int .i64 z, .int .i64 bd, .int .i64 ty] 43) = V
      have WV : WA w V u4 vs (.slice (some ⟨g1, 0, none⟩) A.length ca) (.slice (some ⟨b1, off, none⟩) S.length co2) mb (zeros24 ++ entsN S A m k) b A S m := by rw [← hV]; exact HWA.out.alloc _
      have HWV : Hid _ := ⟨WV.drew⟩
      have hBV : wr.heap.size < V.drew.heap.size := by rw [← hV]; simp
      have d0 : V.drew.cell? ⟨wr.heap.size, 0, none⟩ = some (.string nm) := by rw [← hV]; simp
      have d1 : V.drew.cell? ⟨wr.heap.size, 1, none⟩ = some (.string sc) := by rw [← hV]; simp
      have d2 : V.drew.cell? ⟨wr.heap.size, 2, none⟩ = some (.int .i64 v) := by rw [← hV]; simp
      have d3 : V.drew.cell? ⟨wr.heap.size, 3, none⟩ = some (.int .i64 z) := by rw [← hV]; simp
      have d4 : V.drew.cell? ⟨wr.heap.size, 4, none⟩ = some (.int .i64 bd) := by rw [← hV]; simp
      have d5 : V.drew.cell? ⟨wr.heap.size, 5, none⟩ = some (.int .i64 ty) := by rw [← hV]; simp
      obtain ⟨d6, d7⟩ := HFA.out _ _ _ HWV.out
      generalize wr.heap.size = B0 at *
      clear hV WV HWA c0 c1 c2' c3 c4 c5 hac
      go_region_held3 (fun v' => v'.cell? ⟨B0, 0, none⟩ = some (.string nm) ∧ v'.cell? ⟨B0, 1, none⟩ = some (.string sc) ∧ v'.cell? ⟨B0, 2, none⟩ = some (.int .i64 v) ∧ v'.cell? ⟨B0, 3, none⟩ = some (.int .i64 z) ∧ v'.cell? ⟨B0, 4, none⟩ = some (.int .i64 bd) ∧ v'.cell? ⟨B0, 5, none⟩ = some (.int .i64 ty) ∧ v'.cell? ⟨g1, k, none⟩ = some (.int .i64 a) ∧ (Instr.lookup 49 (.map (some mb)) (.string sc) false).run Tryd.prog v' = .ok (.int .i64 nu) v')
        ((refine ⟨?_, ?_, ?_, ?_, ?_, ?_, ?_, ?_⟩) <;> (with_reducible assumption))
        ((go_at_call 20; (with_reducible refine (HAE.out _ HWV.out.y HWV.out.bel.size HWV.out.fz).mono ?_); rintro e u ⟨v9, rfl, hr9, hs9⟩; have W9 := HWV.out.step hr9 hs9 hf0; obtain ⟨x6, x7⟩ := HFA.out _ _ _ W9; have eB : ∀ o, u.cell? ⟨B0, o, none⟩ = V.drew.cell? ⟨B0, o, none⟩ := fun o => World.cell?_of_block (hs9.turn.block B0 hBV hnB); have x0 := (eB 0).trans d0; have x1 := (eB 1).trans d1; have x2 := (eB 2).trans d2; have x3 := (eB 3).trans d3; have x4 := (eB 4).trans d4; have x5 := (eB 5).trans d5; clear eB))
      go_wp2
      refine ⟨⟨k + 1, hlt, by go_num, ⟨?_⟩⟩, by simp [intOf]; omega⟩
      rw [HSU.out, ← List.append_assoc]
      exact W9
    · obtain rfl : k = S.length := by omega
      go_wp2
      (try simp only [Exit.inBlock, Exit.then])
      refine bodyPost_ret (results_tmp4 rfl _ _ _) rfl ?_
      exact ⟨_, _, rfl, HWA.out.y, HWA.out.s, HWA.out.ap, HWA.out.bel⟩
end Go.Proofs.YtpdcbokcoaienaaDoor

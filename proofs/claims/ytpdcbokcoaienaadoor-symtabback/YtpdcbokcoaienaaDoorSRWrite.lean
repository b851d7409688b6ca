/- The contract of the document's own Write. -/
import Derived.Test.YtpdcbokcoaienaaDoorSRCheck
import Derived.Test.YtpdcbokcoaienaaDoorSROrd
import Derived.Test.YtpdcbokcoaienaaDoorSWrite
import Derived.Test.YtpdcbokcoaienaaDoorSRStr
namespace Go.Proofs.YtpdcbokcoaienaaDoor
open Go.ChangeShapes Go.WideShapes Go.ChangeAt Go.RowKit Go.Maps
set_option linter.unusedVariables false
set_option linter.unusedSimpArgs false

/-- All that lies in memory while the document's own entries are written. -/
structure WB (w wr : World) (vy vs va vo : Value) (xs b : List Int) (A : List Int) (S : List Sym) : Prop where
  y : Own wr w.heap.size vy xs
  s : Own wr w.heap.size vs b
  ap : Apart vs vy
  a : OwnI wr w.heap.size va A
  o : OwnY wr w.heap.size vo S
  bel : Below w.heap.size w wr
theorem WB.alloc {w wr : World} {vy vs va vo : Value} {xs b : List Int} {A : List Int} {S : List Sym} (h : WB w wr vy vs va vo xs b A S) (o : Obj) : WB w (wr.alloc o) vy vs va vo xs b A S :=
  ⟨World.ownsRow.alloc h.y o, World.ownsRow.alloc h.s o, h.ap, World.ownsRow.alloc h.a o, World.ownsRow.alloc h.o o, h.bel.alloc h.bel.size o⟩
theorem WB.step {w wr w' : World} {vy vs va vo v' : Value} {xs ys b : List Int} {A : List Int} {S : List Sym} (h : WB w wr vy vs va vo xs b A S) (hr : Own w' w.heap.size v' ys) (st : Step wr w' vy v') : WB w w' v' vs va vo ys b A S := by
  have k1 := st.keep h.s h.ap
  have k2 := st.keep h.a (own_apart' (by decide) h.y h.a)
  have k3 := st.keep h.o (own_apart' (by decide) h.y h.o)
  exact ⟨hr, k1.1, k1.2, k2.1, k3.1, h.bel.trans (st.below h.y h.bel.size)⟩

theorem rwrite_bad (ao a2 : Option Addr) (c c2 : Nat) (l : List Sym) (ss : List ByteArray) (w : World) (hl : l.length ≤ 8796093022207) (hl2 : ss.length ≤ 8796093022208) (hr : Syms w ao l) (hs : Strs w a2 ss) (hsz : SZ l) (hz2 : ∀ s ∈ ss, s.size ≤ 9223372036854775807) (hc : (checkE l ss == 0) = false) :
    Calls Tryd.prog 7 #[.slice ao l.length c, .slice a2 ss.length c2] w fun e w' => e = .returned (.tuple #[.slice none 0 0, .slice none 0 0, .int .i64 0, .int .i64 (checkE l ss)]) ∧ Below w.heap.size w w' := by
  have C := rcheck_any ao a2 c c2 l ss w hl hl2 hr hs hsz hz2
  have HC : Hid _ := ⟨C⟩
  generalize checkE l ss = x at *
  clear C hr hs hsz hz2
  go_enter Tryd.func7, Tryd.ntmps7
  go_wp2_with (go_at_call 10; refine HC.out.mono ?_; rintro e w1 ⟨rfl, hb1⟩)
  (try simp only [Exit.inBlock, Exit.then])
  refine bodyPost_ret (results_tmp4 rfl _ _ _) rfl ?_
  exact ⟨rfl, hb1⟩

theorem two_le (b t : Int) : [(16 * b + t) % 256, 0] = le 1 (16 * b + t) ++ le 1 0 := by
  simp [le]
theorem own_bel_row {w w' : World} (hb : Below w.heap.size w w') {base e s n : Nat} {v : Value} {xs : List Value} (h : w.ownsRow base e s v n xs) : w'.ownsRow base e s v n xs := (Turn.of_below hb (fun _ => False)).row h (fun _ _ e => e)

set_option maxHeartbeats 8000000 in
set_option maxRecDepth 10000 in
theorem rwrite_ok (ao a2 : Option Addr) (c c2 : Nat) (l : List Sym) (ss : List ByteArray) (w : World) (hl : l.length ≤ 8796093022207) (hl2 : ss.length ≤ 8796093022208) (hr : Syms w ao l) (hs : Strs w a2 ss) (hsz : SZ l) (hz2 : ∀ s ∈ ss, s.size ≤ 9223372036854775807)
    (hc : checkE l ss = 0) (m : ByteArray → Option Int) (hm : numM ss = some m) (b A : List Int) (hst : strM ((ordL l).map Sym.nm) = .ok (b, A)) :
    Calls Tryd.prog 7 #[.slice ao l.length c, .slice a2 ss.length c2] w fun e w' => WOk l m b A w e w' := by
  have C := rcheck_any ao a2 c c2 l ss w hl hl2 hr hs hsz hz2
  obtain ⟨n1, n2, n3, n4, m', hm', hu, hrg, hall⟩ := check_ok hc
  have HNI := numM_NI hm
  rw [hm] at hm'
  cases hm'
  rw [hc] at C
  obtain ⟨_, _, T, hT, g, hTl⟩ := strM_ok hst
  have HC : Hid _ := ⟨C⟩
  have HL : Hid (∀ w', Below w.heap.size w w' → Calls Tryd.prog 21 #[.slice ao l.length c] w' fun e w'' => ∃ v, e = .returned (.tuple #[v, .int .i64 (locs l).length]) ∧ OwnY w'' w'.heap.size v (ordL l) ∧ Below w'.heap.size w' w'') := ⟨fun w' h => ordered_any ao c l w' n1 (hr.below h (Nat.le_refl _))⟩
  have HS : Hid (∀ a' c' w', Strs w' a' ((ordL l).map Sym.nm) → Calls Tryd.prog 22 #[.slice a' ((ordL l).map Sym.nm).length c'] w' fun e w'' => ∃ vb va, e = .returned (.tuple #[vb, va, .int .i64 0]) ∧ Own w'' w'.heap.size vb b ∧ OwnI w'' w'.heap.size va A ∧ Below w'.heap.size w' w'') := ⟨fun a' c' w' h => by
    have := rstrings_any a' c' ((ordL l).map Sym.nm) w' (by rw [List.length_map, ordL_len]; omega) h (fun s hs => by
      obtain ⟨x, hx, rfl⟩ := List.mem_map.1 hs
      exact (hsz _ (ordL_mem hx)).1)
    rw [hst] at this
    exact this⟩
  have HPL : Hid (∀ s w', Below w.heap.size w w' → Calls Tryd.prog 23 #[.slice a2 ss.length c2, .string s] w' fun e w'' => e = .returned (.int .i64 (pl ss s)) ∧ w'' = w') := ⟨fun s w' h => rplace_any a2 c2 ss s w' (by omega) (hs.below h (Nat.le_refl _))⟩
  have HNU : Hid (∀ i, i < (ordL l).length → ((ordL l).getD i Sym.none).sc ≠ ByteArray.empty → ((ordL l).getD i Sym.none).sc ≠ star → (m ((ordL l).getD i Sym.none).sc).getD 0 = 1 + (pl ss ((ordL l).getD i Sym.none).sc : Int) ∧ pl ss ((ordL l).getD i Sym.none).sc ≤ 64) := ⟨fun i hi h1 h2 => by
    have hg : (ordL l).getD i Sym.none = (ordL l)[i] := by simp [hi]
    have hmem : (ordL l).getD i Sym.none ∈ l := by rw [hg]; exact ordL_mem (List.getElem_mem hi)
    have h3 := (hall _ hmem).1
    have h4 := HNI.oth _ h1 h2
    have h5 : pl ss ((ordL l).getD i Sym.none).sc ≤ ss.length := List.findIdx_le_length
    rw [h4] at h3 ⊢
    split at h3
    · rename_i hlt
      rw [if_pos hlt]
      exact ⟨rfl, by omega⟩
    · simp at h3⟩
  have HST : Hid ((m star).getD 0 = 65521) := ⟨by rw [HNI.str]; rfl⟩
  have HEM : Hid ((m ByteArray.empty).getD 0 = 0) := ⟨by rw [HNI.emp]; rfl⟩
  have HEN : Hid (∀ i, i < (ordL l).length → EntOk ((ordL l).getD i Sym.none) (A.getD i 0) ((m ((ordL l).getD i Sym.none).sc).getD 0)) := ⟨fun i hi => by
    have hg : (ordL l).getD i Sym.none = (ordL l)[i] := by simp [hi]
    have hmem : (ordL l).getD i Sym.none ∈ l := by rw [hg]; exact ordL_mem (List.getElem_mem hi)
    have h1 := hall _ hmem
    refine ent_ok h1.2 ?_ ?_
    · have := g.place i (by simpa using hi)
      omega
    · cases hh : m ((ordL l).getD i Sym.none).sc with
      | none => rw [hh] at h1; simp at h1
      | some p => simpa using hrg _ _ hh⟩
  have hAl : A.length = (ordL l).length := by rw [g.len]; simp
  have hSl : (ordL l).length ≤ 2000 := by rw [ordL_len]; exact n1
  have hloc : (locs l).length ≤ 2000 := Nat.le_trans (List.length_filter_le _ _) n1
  have HNM : Hid (∀ k (hk : k < (ordL l).length), ((ordL l).map Sym.nm).take (k + 1) = ((ordL l).map Sym.nm).take k ++ [((ordL l).getD k Sym.none).nm]) := ⟨fun k hk => by
    have hk' : k < ((ordL l).map Sym.nm).length := by simpa using hk
    have hg : (ordL l).getD k Sym.none = (ordL l)[k] := by simp [hk]
    rw [List.take_succ_eq_append_getElem hk', hg]; simp⟩
  have hNL : ((ordL l).map Sym.nm).length = (ordL l).length := by simp
  unfold WOk symsB
  generalize hNM : (ordL l).map Sym.nm = NM at *
  generalize locs l = LO at *
  generalize ordL l = S at *
  obtain ⟨i0, hi, hz0, hz1, hz2'⟩ := info_parts info5
  have tk : True := trivial
  have HNL : Hid _ := ⟨hNL⟩
  clear C hr hs hsz hz2 hc hm hst n3 n4 hu hrg hall hT g HNI hNM hNL
  go_enter Tryd.func7, Tryd.ntmps7
  go_wp2_with (first
    | (go_at_call 10; refine HC.out.mono ?_; rintro e w1 ⟨rfl, hb1⟩)
    | (go_at_call 21; (with_reducible refine (HL.out _ hb1).mono ?_); rintro e w2 ⟨vo, rfl, ho2, hb2⟩; have B2 := hb1.trans (hb2.mono hb1.size); obtain ⟨ao2, co2, hvo, _, _, hso, _⟩ := ho2.any; subst hvo))
  have HO2 : Hid _ := ⟨ho2⟩
  have HB2 : Hid _ := ⟨B2⟩
  have HSO : Hid _ := ⟨hso⟩
  have hb12 : w.heap.size ≤ w1.heap.size := hb1.size
  have hs2 : w.heap.size ≤ w2.heap.size := B2.size
  clear ho2 B2 hso hb1 hb2
  go_loopw [12, 11] (fun i v wr => ∃ k : Nat, k ≤ S.length ∧ i = .int .i64 k ∧ Hid (OwnS wr w2.heap.size v (NM.take k) ∧ Below w2.heap.size w2 wr)) (fun i _ _ => S.length - (intOf i).toNat)
  case atStart => exact ⟨0, by omega, rfl, ⟨by simpa using OwnS.nil _ _, Below.refl _ _⟩⟩
  case round =>
    obtain ⟨k, hk, rfl, HW⟩ := hrel
    obtain ⟨on, hbel⟩ := HW.out
    by_cases hlt : k < S.length
    · obtain ⟨b1, off, rfl, hcell⟩ : ∃ b off, ao2 = some ⟨b, off, none⟩ ∧ ∀ i, i < S.length → SymAt wr b (off + i * 6) (S.getD i Sym.none) := by
        rcases HSO.out.below hbel (Nat.le_refl _) with h | h
        · subst h; simp at hlt
        · exact h
      have c0 := (hcell k hlt).nm
      have hnt := HNM.out k hlt
      have hlen : (NM.take k).length = k := by rw [List.length_take, HNL.out]; omega
      generalize S.getD k Sym.none = s at *
      have HON : Hid _ := ⟨on⟩
      have HBE : Hid _ := ⟨hbel⟩
      have HNT : Hid _ := ⟨hnt⟩
      have hbs : w2.heap.size ≤ wr.heap.size := hbel.size
      clear on hbel hcell hnt HW
      go_wp2_with (at_builtin; refine append_name _ rfl _ _ rfl w2.heap.size _ _ rfl HON.out s.nm rfl (by rw [hlen]; omega) hbs ?_; intro v1 w3 hr1 hs1)
      go_roundw
      case rel => exact ⟨k + 1, hlt, by go_num, ⟨by rw [HNT.out]; exact hr1, HBE.out.trans (hs1.below HON.out hbs)⟩⟩
      case measure => simp [intOf]; omega
    · obtain rfl : k = S.length := by omega
      have hbs := hbel.size
      rw [List.take_of_length_le (by rw [HNL.out]; exact Nat.le_refl _)] at on
      obtain ⟨a3, c3, hv3, _, _, hs3, _⟩ := on.any
      subst hv3
      have HS3 : Hid _ := ⟨hs3⟩
      have HBE : Hid _ := ⟨hbel⟩
      clear on hs3 hbel HW
      go_wp2_with (first
        | (go_at_call 22; (with_reducible refine (HS.out _ _ _ HS3.out).mono ?_); rintro e w5 ⟨vs, va, rfl, hs4, ha4, hb5⟩)
        | (at_make; refine wpList_make_full w5 rfl _ _ 24 rfl w5.heap.size 5 i0 (.int .u8 0) 1 Tryd.underlying24 hi hz0 hz1 .i64 .i64 24 24 24 rfl rfl rfl rfl (by rw [hz2']; decide) (by decide) (Nat.le_refl _) ?_; intro w6 hy6 hg6))
      have t6 : Turn (fun _ => False) w5 w6 := (Turn.refl _ w5).grown hg6 (fun k _ e => by cases e)
      have nf : ∀ (v : Value) (k : Nat), v.ownBlock = some k → ¬ (fun _ : Nat => False) k := fun _ _ _ h => h
      have o4 := own_bel_row HBE.out HO2.out
      have o5 := own_bel_row hb5 o4
      have bw : w.heap.size ≤ wr.heap.size := Nat.le_trans hs2 hbs
      have B4 : Below w.heap.size w wr := HB2.out.trans (HBE.out.mono hs2)
      have B5 := B4.trans (hb5.mono bw)
      have b15 : w.heap.size ≤ w5.heap.size := B5.size
      have hAp : Apart vs (.slice (some ⟨w5.heap.size, 0, none⟩) 24 24) := fun k h1 h2 => by
        have := (hs4.lt k h1).2
        simp only [Value.ownBlock, Option.some.injEq] at h2
        omega
      have W6 : WB w w6 (.slice (some ⟨w5.heap.size, 0, none⟩) 24 24) vs va (.slice ao2 S.length co2) zeros24 b A S := by
        refine ⟨?_, (t6.row hs4 (nf _)).mono bw, hAp, (t6.row ha4 (nf _)).mono bw, (t6.row o5 (nf _)).mono hb12, B5.trans (t6.below b15 (fun _ h => h.elim))⟩
        rw [made24] at hy6
        exact World.ownsRow.mono hy6 b15
      obtain ⟨aa, ca, hva, _⟩ := OwnI.ints ha4
      subst hva
      rw [hAl]
      have HW6 : Hid _ := ⟨W6⟩
      clear W6 hAp o4 o5 bw B4 B5 b15 t6 nf hs4 ha4 hb5 hy6 hg6 HC HL HS HO2 HB2 HSO HS3 HBE HNM
      go_loopw [16, 15] (fun i vy wq => ∃ k : Nat, k ≤ S.length ∧ i = .int .i64 k ∧ Hid (WB w wq vy vs (.slice aa A.length ca) (.slice ao2 S.length co2) (zeros24 ++ entsN S A m k) b A S)) (fun i _ _ => S.length - (intOf i).toNat)
      case atStart => exact ⟨0, by omega, rfl, ⟨by simpa [entsN] using HW6.out⟩⟩
      case round =>
        obtain ⟨k, hk, rfl, HWA⟩ := hrel
        by_cases hlt : k < S.length
        · obtain ⟨b1, off, rfl, hcell⟩ : ∃ b off, ao2 = some ⟨b, off, none⟩ ∧ ∀ i, i < S.length → SymAt wr b (off + i * 6) (S.getD i Sym.none) := by
            obtain ⟨ao3, co3, hv3, _, _, hS3, _⟩ := HWA.out.o.any
            simp only [Value.slice.injEq] at hv3
            obtain ⟨rfl, _, rfl⟩ := hv3
            rcases hS3 with h | h
            · subst h; simp at hlt
            · exact h
          have hkA : k < A.length := by omega
          obtain ⟨g1, rfl⟩ : ∃ g, aa = some ⟨g, 0, none⟩ := by
            obtain ⟨aa2, ca2, hv3, hI3⟩ := OwnI.ints HWA.out.a
            simp only [Value.slice.injEq] at hv3
            obtain ⟨rfl, _, rfl⟩ := hv3
            rcases hI3 with h | ⟨g, e, h⟩
            · rw [h] at hkA; simp at hkA
            · exact ⟨g, e⟩
          have HAC : Hid (∀ w' vy' ys, WB w w' vy' vs (.slice (some ⟨g1, 0, none⟩) A.length ca) (.slice (some ⟨b1, off, none⟩) S.length co2) ys b A S → w'.cell? ⟨g1, k, none⟩ = some (.int .i64 (A.getD k 0))) := ⟨fun w' vy' ys h => h.a.cell hkA⟩
          obtain ⟨c0, c1, c2', c3, c4, c5⟩ := hcell k hlt
          have hen := HEN.out k hlt
          have hnu := HNU.out k hlt
          have hsuc := entsN_succ S A m k
          have hln : (zeros24 ++ entsN S A m k).length ≤ 48024 := by
            rw [List.length_append, entsN_len]
            simp [zeros24]; omega
          generalize S.getD k Sym.none = s at *
          generalize A.getD k 0 = a at *
          have hb16 : -9223372036854775808 ≤ 16 * s.b ∧ 16 * s.b ≤ 9223372036854775807 := by have := hen.b0; have := hen.b1; omega
          have hbt : -9223372036854775808 ≤ 16 * s.b + s.t ∧ 16 * s.b + s.t ≤ 9223372036854775807 := by have := hen.b0; have := hen.b1; have := hen.t0; have := hen.t1; omega
          have HL4 : Hid (∀ v xs n w', Own w' w.heap.size v xs → w.heap.size ≤ w'.heap.size → xs.length ≤ 1048576 → Calls Tryd.prog 24 #[v, .int .i64 n, .int .i64 4] w' fun e w'' => ∃ v', e = .returned v' ∧ Own w'' w.heap.size v' (xs ++ le 4 n) ∧ Step w' w'' v v') := ⟨fun v xs n w' h1 h2 h3 => low_any v xs w.heap.size n 4 w' h1 h2 h3 (by omega)⟩
          have HL2 : Hid (∀ v xs n w', Own w' w.heap.size v xs → w.heap.size ≤ w'.heap.size → xs.length ≤ 1048576 → Calls Tryd.prog 24 #[v, .int .i64 n, .int .i64 2] w' fun e w'' => ∃ v', e = .returned v' ∧ Own w'' w.heap.size v' (xs ++ le 2 n) ∧ Step w' w'' v v') := ⟨fun v xs n w' h1 h2 h3 => low_any v xs w.heap.size n 2 w' h1 h2 h3 (by omega)⟩
          have HL8 : Hid (∀ v xs n w', Own w' w.heap.size v xs → w.heap.size ≤ w'.heap.size → xs.length ≤ 1048576 → Calls Tryd.prog 24 #[v, .int .i64 n, .int .i64 8] w' fun e w'' => ∃ v', e = .returned v' ∧ Own w'' w.heap.size v' (xs ++ le 8 n) ∧ Step w' w'' v v') := ⟨fun v xs n w' h1 h2 h3 => low_any v xs w.heap.size n 8 w' h1 h2 h3 (by omega)⟩
          obtain ⟨nm, sc, v, z, bd, ty⟩ := s
          dsimp only [entB] at *
          have hnB : u15.ownBlock ≠ some wr.heap.size := fun e => by have := (HWA.out.y.lt _ e).2; omega
          have WV := HWA.out.alloc (.cells #[.string nm, .string sc, .int .i64 v, .int .i64 z, .int .i64 bd, .int .i64 ty] 43)
          have HK : Hid (∀ w' v', Step (wr.alloc (.cells #[.string nm, .string sc, .int .i64 v, .int .i64 z, .int .i64 bd, .int .i64 ty] 43)) w' u15 v' → w'.cell? ⟨wr.heap.size, 2, none⟩ = some (.int .i64 v) ∧ w'.cell? ⟨wr.heap.size, 3, none⟩ = some (.int .i64 z) ∧ w'.cell? ⟨wr.heap.size, 4, none⟩ = some (.int .i64 bd) ∧ w'.cell? ⟨wr.heap.size, 5, none⟩ = some (.int .i64 ty)) := ⟨fun w' v' h => by
            have e : ∀ o, w'.cell? ⟨wr.heap.size, o, none⟩ = (wr.alloc (.cells #[.string nm, .string sc, .int .i64 v, .int .i64 z, .int .i64 bd, .int .i64 ty] 43)).cell? ⟨wr.heap.size, o, none⟩ := fun o => World.cell?_of_block (h.turn.block wr.heap.size (by simp) hnB)
            refine ⟨?_, ?_, ?_, ?_⟩ <;> (rw [e]; simp)⟩
          have hat := HAC.out _ _ _ WV
          have HWV : Hid _ := ⟨WV⟩
          have HEN2 : Hid _ := ⟨hsuc⟩
          have hem := decide_eq_emptyBytes sc
          have hsr := emp_tl sc
          have t1 : True := trivial
          have t2 : True := trivial
          have t3 : True := trivial
          clear WV hcell HAC hsuc hen HWA HW6
          by_cases hst : sc = star
          · rw [decide_eq_true hst] at hsr
            have hnu2 : (m sc).getD 0 = 65521 := by rw [hst]; exact HST.out
            rw [hnu2] at HEN2
            clear hem hst hnu hnu2
            go_wp2_with (first
              | (go_at_call 23; (with_reducible refine (HPP.out _ HWV.out.bel).mono ?_); rintro e w' ⟨rfl, hw'⟩; subst w')
              | (go_at_call 24; have _t := t1; (with_reducible refine (HL4.out _ _ _ _ HWV.out.y HWV.out.bel.size (by omega)).mono ?_); rintro e p1 ⟨y1, rfl, o1, s1⟩; obtain ⟨f2, f3, f4, f5⟩ := HK.out _ _ s1; have hb1 := Nat.le_trans HWV.out.bel.size s1.turn.size; clear t1 _t)
              | (at_builtin; refine append_rowS _ rfl _ _ rfl w.heap.size _ _ rfl (World.ownsRow.alloc o1 _) p1.heap.size 2 2 [(16 * bd + ty) % 256, 0] rfl rfl (fun i hi => by (have : i = 0 ∨ i = 1 := (by omega)); rcases this with rfl | rfl <;> simp) (by rw [List.length_append, le_len]; omega) (by simp; omega) ?_; intro y2 p2 o2 s2; have s12 := s1.trans (Step.after ((Below.refl p1.heap.size p1).alloc (Nat.le_refl _) _) s2); clear f2 f3 f4 f5; obtain ⟨f2, f3, f4, f5⟩ := HK.out _ _ s12; have hb2 := Nat.le_trans HWV.out.bel.size s12.turn.size)
              | (go_at_call 24; have _t := t2; (with_reducible refine (HL2.out _ _ _ _ o2 hb2 (by rw [List.length_append, List.length_append, le_len]; simp only [List.length_cons, List.length_nil]; omega)).mono ?_); rintro e p3 ⟨y3, rfl, o3, s3⟩; have s13 := s12.trans s3; clear f2 f3 f4 f5; obtain ⟨f2, f3, f4, f5⟩ := HK.out _ _ s13; have hb3 := Nat.le_trans HWV.out.bel.size s13.turn.size; clear t2 _t)
              | (go_at_call 24; have _t := t3; (with_reducible refine (HL8.out _ _ _ _ o3 hb3 (by rw [List.length_append, List.length_append, List.length_append, le_len, le_len]; simp only [List.length_cons, List.length_nil]; omega)).mono ?_); rintro e p4 ⟨y4, rfl, o4, s4⟩; have s14 := s13.trans s4; clear f2 f3 f4 f5; obtain ⟨f2, f3, f4, f5⟩ := HK.out _ _ s14; have hb4 := Nat.le_trans HWV.out.bel.size s14.turn.size; clear t3 _t)
              | (go_at_call 24; (with_reducible refine (HL8.out _ _ _ _ o4 hb4 (by rw [List.length_append, List.length_append, List.length_append, List.length_append, le_len, le_len, le_len]; simp only [List.length_cons, List.length_nil]; omega)).mono ?_); rintro e p5 ⟨y5, rfl, o5, s5⟩; have s15 := s14.trans s5))
            go_roundw
            case rel =>
              refine ⟨k + 1, hlt, by go_num, ⟨?_⟩⟩
              have W9 := HWV.out.step o5 s15
              rw [HEN2.out]
              rw [two_le] at W9
              simpa only [List.append_assoc] using W9
            case measure => simp [intOf]; omega
          · rw [decide_eq_false hst] at hsr
            by_cases he : sc = ByteArray.empty
            · rw [decide_eq_true he] at hem
              have hee : sc.toList.isEmpty = true := hem.symm
              have hnu2 : (m sc).getD 0 = 0 := by rw [he]; exact HEM.out
              rw [hnu2] at HEN2
              clear hem hst hnu hnu2 he
              go_wp2_with (first
                | (go_at_call 23; (with_reducible refine (HPP.out _ HWV.out.bel).mono ?_); rintro e w' ⟨rfl, hw'⟩; subst w')
                | (go_at_call 24; have _t := t1; (with_reducible refine (HL4.out _ _ _ _ HWV.out.y HWV.out.bel.size (by omega)).mono ?_); rintro e p1 ⟨y1, rfl, o1, s1⟩; obtain ⟨f2, f3, f4, f5⟩ := HK.out _ _ s1; have hb1 := Nat.le_trans HWV.out.bel.size s1.turn.size; clear t1 _t)
                | (at_builtin; refine append_rowS _ rfl _ _ rfl w.heap.size _ _ rfl (World.ownsRow.alloc o1 _) p1.heap.size 2 2 [(16 * bd + ty) % 256, 0] rfl rfl (fun i hi => by (have : i = 0 ∨ i = 1 := (by omega)); rcases this with rfl | rfl <;> simp) (by rw [List.length_append, le_len]; omega) (by simp; omega) ?_; intro y2 p2 o2 s2; have s12 := s1.trans (Step.after ((Below.refl p1.heap.size p1).alloc (Nat.le_refl _) _) s2); clear f2 f3 f4 f5; obtain ⟨f2, f3, f4, f5⟩ := HK.out _ _ s12; have hb2 := Nat.le_trans HWV.out.bel.size s12.turn.size)
                | (go_at_call 24; have _t := t2; (with_reducible refine (HL2.out _ _ _ _ o2 hb2 (by rw [List.length_append, List.length_append, le_len]; simp only [List.length_cons, List.length_nil]; omega)).mono ?_); rintro e p3 ⟨y3, rfl, o3, s3⟩; have s13 := s12.trans s3; clear f2 f3 f4 f5; obtain ⟨f2, f3, f4, f5⟩ := HK.out _ _ s13; have hb3 := Nat.le_trans HWV.out.bel.size s13.turn.size; clear t2 _t)
                | (go_at_call 24; have _t := t3; (with_reducible refine (HL8.out _ _ _ _ o3 hb3 (by rw [List.length_append, List.length_append, List.length_append, le_len, le_len]; simp only [List.length_cons, List.length_nil]; omega)).mono ?_); rintro e p4 ⟨y4, rfl, o4, s4⟩; have s14 := s13.trans s4; clear f2 f3 f4 f5; obtain ⟨f2, f3, f4, f5⟩ := HK.out _ _ s14; have hb4 := Nat.le_trans HWV.out.bel.size s14.turn.size; clear t3 _t)
                | (go_at_call 24; (with_reducible refine (HL8.out _ _ _ _ o4 hb4 (by rw [List.length_append, List.length_append, List.length_append, List.length_append, le_len, le_len, le_len]; simp only [List.length_cons, List.length_nil]; omega)).mono ?_); rintro e p5 ⟨y5, rfl, o5, s5⟩; have s15 := s14.trans s5))
              go_roundw
              case rel =>
                refine ⟨k + 1, hlt, by go_num, ⟨?_⟩⟩
                have W9 := HWV.out.step o5 s15
                rw [HEN2.out]
                rw [two_le] at W9
                simpa only [List.append_assoc] using W9
              case measure => simp [intOf]; omega
            · rw [decide_eq_false he] at hem
              have hee : sc.toList.isEmpty = false := hem.symm
              obtain ⟨hnu2, hp64⟩ := hnu he hst
              rw [hnu2] at HEN2
              have HP := HPL.out sc
              generalize pl ss sc = p at *
              have HPP : Hid _ := ⟨HP⟩
              clear hem hst hnu2 he HP hnu
              go_wp2_with (first
                | (go_at_call 23; (with_reducible refine (HPP.out _ HWV.out.bel).mono ?_); rintro e w' ⟨rfl, hw'⟩; subst w')
                | (go_at_call 24; have _t := t1; (with_reducible refine (HL4.out _ _ _ _ HWV.out.y HWV.out.bel.size (by omega)).mono ?_); rintro e p1 ⟨y1, rfl, o1, s1⟩; obtain ⟨f2, f3, f4, f5⟩ := HK.out _ _ s1; have hb1 := Nat.le_trans HWV.out.bel.size s1.turn.size; clear t1 _t)
                | (at_builtin; refine append_rowS _ rfl _ _ rfl w.heap.size _ _ rfl (World.ownsRow.alloc o1 _) p1.heap.size 2 2 [(16 * bd + ty) % 256, 0] rfl rfl (fun i hi => by (have : i = 0 ∨ i = 1 := (by omega)); rcases this with rfl | rfl <;> simp) (by rw [List.length_append, le_len]; omega) (by simp; omega) ?_; intro y2 p2 o2 s2; have s12 := s1.trans (Step.after ((Below.refl p1.heap.size p1).alloc (Nat.le_refl _) _) s2); clear f2 f3 f4 f5; obtain ⟨f2, f3, f4, f5⟩ := HK.out _ _ s12; have hb2 := Nat.le_trans HWV.out.bel.size s12.turn.size)
                | (go_at_call 24; have _t := t2; (with_reducible refine (HL2.out _ _ _ _ o2 hb2 (by rw [List.length_append, List.length_append, le_len]; simp only [List.length_cons, List.length_nil]; omega)).mono ?_); rintro e p3 ⟨y3, rfl, o3, s3⟩; have s13 := s12.trans s3; clear f2 f3 f4 f5; obtain ⟨f2, f3, f4, f5⟩ := HK.out _ _ s13; have hb3 := Nat.le_trans HWV.out.bel.size s13.turn.size; clear t2 _t)
                | (go_at_call 24; have _t := t3; (with_reducible refine (HL8.out _ _ _ _ o3 hb3 (by rw [List.length_append, List.length_append, List.length_append, le_len, le_len]; simp only [List.length_cons, List.length_nil]; omega)).mono ?_); rintro e p4 ⟨y4, rfl, o4, s4⟩; have s14 := s13.trans s4; clear f2 f3 f4 f5; obtain ⟨f2, f3, f4, f5⟩ := HK.out _ _ s14; have hb4 := Nat.le_trans HWV.out.bel.size s14.turn.size; clear t3 _t)
                | (go_at_call 24; (with_reducible refine (HL8.out _ _ _ _ o4 hb4 (by rw [List.length_append, List.length_append, List.length_append, List.length_append, le_len, le_len, le_len]; simp only [List.length_cons, List.length_nil]; omega)).mono ?_); rintro e p5 ⟨y5, rfl, o5, s5⟩; have s15 := s14.trans s5))
              go_roundw
              case rel =>
                refine ⟨k + 1, hlt, by go_num, ⟨?_⟩⟩
                have W9 := HWV.out.step o5 s15
                rw [HEN2.out]
                rw [two_le] at W9
                simpa only [List.append_assoc] using W9
              case measure => simp [intOf]; omega
        · obtain rfl : k = S.length := by omega
          go_wp2
          (try simp only [Exit.inBlock, Exit.then])
          refine bodyPost_ret (results_tmp4 rfl _ _ _) rfl ?_
          exact ⟨_, _, rfl, HWA.out.y, HWA.out.s, HWA.out.ap, HWA.out.bel⟩
end Go.Proofs.YtpdcbokcoaienaaDoor

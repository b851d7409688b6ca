/- The contract of formsLike: a map of the forms whose stem begins the name. -/
import Derived.Test.YtdgejingoamfeaaDoorFindPlain
import Derived.Test.YtdgejingoamfeaaDoorWhole
namespace Go.Proofs.YtdgejingoamfeaaDoor
open Go.ChangeShapes Go.WideShapes Go.ChangeAt Go.RowKit Go.Maps
set_option linter.unusedVariables false
set_option linter.unusedSimpArgs false

set_option maxHeartbeats 1000000 in
theorem lite_any (s p : ByteArray) (w : World) :
    Calls Tryd.prog 91 #[.string s, .string p] w fun e w' => e = .returned (.bool (preB s p)) ∧ w' = w := by
  go_enter Tryd.func91, Tryd.ntmps91
  go_wp2
  · rename_i h
    go_ret
    refine ⟨?_, rfl⟩
    show Ending.returned (Value.bool ((s.extract 0 p.size).toList == p.toList)) = _
    unfold preB
    simp [h]
  · rename_i h
    go_ret
    refine ⟨?_, rfl⟩
    show Ending.returned (Value.bool false) = _
    unfold preB
    simp [h]
theorem prefix_any (s p : ByteArray) (w : World) :
    Calls Tryd.prog 68 #[.string s, .string p] w fun e w' => e = .returned (.bool (preB s p)) ∧ w' = w := by
  go_enter Tryd.func68, Tryd.ntmps68
  go_wp2_with (go_at_call 91; refine (lite_any _ _ _).mono ?_; rintro e w' ⟨rfl, hw⟩; subst w')
  go_ret
  exact ⟨rfl, rfl⟩

/-- A row, be it of an op or of none, lies in a block. -/
structure RC (w : World) (b : Nat) (st : ByteArray) (zs : Int) (l cn sh : Bool) (F : Value) (to us se : Int) : Prop where
  out : w.cell? ⟨b, 0, none⟩ = some (.string st) ∧ w.cell? ⟨b, 1, none⟩ = some (.int .i64 zs) ∧ w.cell? ⟨b, 2, none⟩ = some (.bool l) ∧ w.cell? ⟨b, 3, none⟩ = some (.bool cn) ∧ w.cell? ⟨b, 4, none⟩ = some (.bool sh) ∧ w.cell? ⟨b, 5, none⟩ = some (F) ∧ w.cell? ⟨b, 6, none⟩ = some (.int .i64 to) ∧ w.cell? ⟨b, 7, none⟩ = some (.int .i64 us) ∧ w.cell? ⟨b, 8, none⟩ = some (.int .i64 se)
theorem RC.bel {w v : World} {b : Nat} {st : ByteArray} {zs : Int} {l cn sh : Bool} {F : Value} {to us se : Int} (h : RC w b st zs l cn sh F to us se) (hb : Below w.heap.size w v) : RC v b st zs l cn sh F to us se :=
  ⟨to_bel hb h.out.1, to_bel hb h.out.2.1, to_bel hb h.out.2.2.1, to_bel hb h.out.2.2.2.1, to_bel hb h.out.2.2.2.2.1, to_bel hb h.out.2.2.2.2.2.1, to_bel hb h.out.2.2.2.2.2.2.1, to_bel hb h.out.2.2.2.2.2.2.2.1, to_bel hb h.out.2.2.2.2.2.2.2.2⟩
theorem RC.grown {w v : World} {b B : Nat} {st : ByteArray} {zs : Int} {l cn sh : Bool} {F : Value} {to us se : Int} (h : RC w b st zs l cn sh F to us se) (hg : w.grownBy v (some B)) (hne : b ≠ B) : RC v b st zs l cn sh F to us se := by
  have hlt : b < w.heap.size := World.block_lt_of_cell? w _ h.out.1
  have e := hg.block b hlt (fun e => hne (Option.some.inj e))
  have c : ∀ j x, w.cell? ⟨b, j, none⟩ = some x → v.cell? ⟨b, j, none⟩ = some x := fun j x hx => (World.cell?_of_block (a := ⟨b, j, none⟩) e).trans hx
  obtain ⟨h0, h1, h2, h3, h4, h5, h6, h7, h8⟩ := h.out
  exact ⟨c _ _ h0, c _ _ h1, c _ _ h2, c _ _ h3, c _ _ h4, c _ _ h5, c _ _ h6, c _ _ h7, c _ _ h8⟩
theorem RC.new (w : World) (st : ByteArray) (zs : Int) (l cn sh : Bool) (F : Value) (to us se : Int) (t : Nat) : RC (w.alloc (.cells #[.string st, .int .i64 zs, .bool l, .bool cn, .bool sh, F, .int .i64 to, .int .i64 us, .int .i64 se] t)) w.heap.size st zs l cn sh F to us se := by
  constructor
  simp
theorem RC.load {w : World} {b : Nat} {st : ByteArray} {zs : Int} {l cn sh : Bool} {F : Value} {to us se : Int} (h : RC w b st zs l cn sh F to us se) : (loadVar 52 ⟨b, 0, none⟩).run Tryd.prog w = .ok (.agg #[.string st, .int .i64 zs, .bool l, .bool cn, .bool sh, F, .int .i64 to, .int .i64 us, .int .i64 se]) w := by
  have hi : (Tryd.prog.info? 52).map (·.size) = some 9 := by kernel_rfl
  refine loadVar_of (f := Tryd.prog.fieldsOf 52) (by kernel_rfl) hi ?_
  refine load_list w b 0 [.string st, .int .i64 zs, .bool l, .bool cn, .bool sh, F, .int .i64 to, .int .i64 us, .int .i64 se] fun j v hv => ?_
  obtain ⟨h0, h1, h2, h3, h4, h5, h6, h7, h8⟩ := h.out
  match j, hv with
  | 0, hv => exact (Option.some.inj hv) ▸ h0
  | 1, hv => exact (Option.some.inj hv) ▸ h1
  | 2, hv => exact (Option.some.inj hv) ▸ h2
  | 3, hv => exact (Option.some.inj hv) ▸ h3
  | 4, hv => exact (Option.some.inj hv) ▸ h4
  | 5, hv => exact (Option.some.inj hv) ▸ h5
  | 6, hv => exact (Option.some.inj hv) ▸ h6
  | 7, hv => exact (Option.some.inj hv) ▸ h7
  | 8, hv => exact (Option.some.inj hv) ▸ h8
  | k + 9, hv => simp at hv

theorem sz4 (a : Nat) (h : a < 4) (w : World) : (Instr.index 79 (.agg #[.int .i64 0, .int .i64 1, .int .i64 4, .int .i64 8]) (.int .i64 a)).run Tryd.prog w = .ok (.int .i64 (szV a)) w := by
  have : a = 0 ∨ a = 1 ∨ a = 2 ∨ a = 3 := by omega
  clear h
  rcases this with rfl | rfl | rfl | rfl
  all_goals (show Sem.run _ _ _ = _; kernel_rfl)

theorem bel_of {w u : World} {N : Nat} {E : ByteArray → Value → Prop} (h : ∃ n D, n ≤ N ∧ u.ownsMap Tryd.prog 9 RV w.heap.size n D ∧ Inv D E ∧ Below w.heap.size w u) : Below w.heap.size w u := by
  obtain ⟨n, D, hn, ho, hi, hb⟩ := h
  exact hb
theorem hid2 {p : Prop} (h : p) : Hid p := ⟨h⟩
/-- What is known of the row of op k. -/
structure RowK (k : Nat) (st : ByteArray) (zs : Int) (l cn sh : Bool) (F : Value) (to us se : Int) : Prop where
  ix : ∀ w, (Instr.index 75 (.agg tabD) (.int .i64 k)).run Tryd.prog w = .ok (.agg #[.string st, .int .i64 zs, .bool l, .bool cn, .bool sh, F, .int .i64 to, .int .i64 us, .int .i64 se]) w
  stem : st = stemK k
  fn : F = .nilFunc ∨ ∃ f, F = .func (.func f) #[] #[]
  has : ∀ s c w, Gl w → Calls Tryd.prog 32 #[.agg #[.string st, .int .i64 zs, .bool l, .bool cn, .bool sh, F, .int .i64 to, .int .i64 us, .int .i64 se], .int .i64 s, .int .i64 c] w fun e w' => e = .returned (.bool (hbK k s c)) ∧ Below w.heap.size w w'
  name : ∀ s c w, Gl w → hbK k s c = true → Calls Tryd.prog 40 #[.agg #[.string st, .int .i64 zs, .bool l, .bool cn, .bool sh, F, .int .i64 to, .int .i64 us, .int .i64 se], .int .i64 s, .int .i64 c] w fun e w' => e = .returned (.string (nameV k s c)) ∧ Below w.heap.size w w'

theorem rowK (k : Nat) (h : k < 36) : ∃ st zs l cn sh F to us se, RowK k st zs l cn sh F to us se := by
  by_cases h0 : k = 0
  · subst h0
    refine ⟨⟨#[]⟩, 0, false, false, false, .nilFunc, 0, 0, 0, at_row0, rfl, .inl rfl, fun s c w hw => ?_, fun s c w hw hb => ?_⟩
    · have : hbK 0 s c = false := by unfold hbK; rw [if_neg (by omega)]
      rw [this]; exact has_zero s c w
    · unfold hbK at hb; rw [if_neg (by omega)] at hb; cases hb
  · have h1 : 1 ≤ k ∧ k ≤ 35 := by omega
    refine ⟨(rowL k).stem, (rowL k).sizes, (rowL k).lettered, (rowL k).conditional, (rowL k).short, .func (.func (rowL k).f) #[] #[], (rowL k).to, (rowL k).uses, (rowL k).sets, fun w => at_row k (by omega) (by omega) w, by unfold stemK; rw [if_pos h1], .inr ⟨_, rfl⟩, fun s c w hw => ?_, fun s c w hw hb => ?_⟩
    · have : hbK k s c = hasB (rowL k) s c := by unfold hbK; rw [if_pos h1]
      rw [this]; exact has_any (rowL k) s c w hw
    · have hh : hasB (rowL k) s c = true := by unfold hbK at hb; rw [if_pos h1] at hb; exact hb
      have hr := rows_ok _ (rowL_mem k (by omega) (by omega))
      have hp := has_parts hh
      have : nameV k s c = rowName (rowL k) s c := by unfold nameV; rw [if_pos (by omega), if_pos hh]
      rw [this]
      exact rowName_any (rowL k) s c w hw hr.1 hp.1 (fun hl => hp.2.2 (fun e => by rw [hr.2.2 hl] at hp; exact absurd (hp.2.1 e) (by simp)))

set_option maxHeartbeats 4000000 in
set_option maxRecDepth 4000 in
theorem like_any (t : ByteArray) (w : World) (hw : Gl w) :
    Calls Tryd.prog 38 #[.string t] w fun e w' => e = .returned (.map (some w.heap.size)) ∧ (∃ n D, w'.ownsMap Tryd.prog 9 RV w.heap.size n D ∧ Inv D (St t (P1 36))) ∧ Below w.heap.size w w' := by
  have hmm := @run_makeMap Tryd.prog
  have TB : Hid (∀ v, Calls Tryd.prog 56 #[] v fun e w' => e = .returned (.agg tabD) ∧ w' = v.alloc (.cells tabD 75)) := ⟨table_any⟩
  have RK : Hid (∀ k : Nat, k < 36 → ∃ st zs l cn sh F to us se, RowK k st zs l cn sh F to us se) := ⟨rowK⟩
  have HP : Hid (∀ p v, Calls Tryd.prog 68 #[.string t, .string p] v fun e w' => e = .returned (.bool (preB t p)) ∧ w' = v) := ⟨prefix_any t⟩
  have HW : Hid (Gl w) := ⟨hw⟩
  have HT : Hid (∀ (k : Nat) (st : ByteArray) (zs : Int) (l cn sh : Bool) (F : Value) (to us se : Int), RowK k st zs l cn sh F to us se → ∀ w, (Instr.index 75 (.agg tabD) (.int .i64 k)).run Tryd.prog w = .ok (.agg #[.string st, .int .i64 zs, .bool l, .bool cn, .bool sh, F, .int .i64 to, .int .i64 us, .int .i64 se]) w) := ⟨fun k st zs l cn sh F to us se h => h.ix⟩
  clear hw
  generalize tabD = T at *
  go_enter Tryd.func38, Tryd.ntmps38
  go_wp2_with (go_at_call 56; refine (TB.out _).mono ?_; rintro e w1 ⟨rfl, hw⟩; subst w1)
  go_loopw [11] (fun i wr => ∃ k : Nat, k ≤ 36 ∧ i = .int .i64 k ∧ Hid (∃ n D, n ≤ 64 * k ∧ wr.ownsMap Tryd.prog 9 RV w.heap.size n D ∧ Inv D (St t (P1 k)) ∧ Below w.heap.size w wr)) (fun i _ => 36 - (intOf i).toNat)
  case atStart => exact ⟨0, by omega, rfl, ⟨0, _, by omega, owns_bel (World.ownsMap_made _ _ _ _) (bel_alloc (Below.refl _ _) _), Inv.none (fun t v ⟨o, s, c, h, _⟩ => by have h : o < 0 := h; omega), bel_alloc (bel_alloc (Below.refl _ _) _) _⟩⟩
  case round =>
    obtain ⟨k, hk, rfl, HX⟩ := hrel
    by_cases hlt : k < 36
    · obtain ⟨st, zs, l, cn, sh, F, to, us, se, hR⟩ := RK.out k hlt
      have ix := HT.out _ _ _ _ _ _ _ _ _ _ hR
      have HR := hid2 hR
      have hk3 : (k : Int) < 36 := by omega
      obtain ⟨q, hq⟩ : ∃ q, preB t st = q := ⟨_, rfl⟩
      have HQ : Hid (preB t (stemK k) = q) := ⟨by rw [← hR.stem]; exact hq⟩
      have HP' : Hid (∀ v, Calls Tryd.prog 68 #[.string t, .string st] v fun e w' => e = .returned (.bool q) ∧ w' = v) := ⟨fun v => hq ▸ HP.out st v⟩
      have hF := hR.fn
      clear hR hq
      rcases q with _ | _
      · have HE : ∀ v : World, v.ownsMap Tryd.prog 9 RV w.heap.size = v.ownsMap Tryd.prog 9 RV w.heap.size := fun _ => rfl
        clear HE
        rcases hF with rfl | ⟨f, rfl⟩
        all_goals
          go_wp2_with (go_at_call 68; refine (HP'.out _).mono ?_; rintro e w1 ⟨rfl, hw1⟩; subst w1)
          go_roundw
          case rel =>
            obtain ⟨n, D, hn, ho, hi, hb⟩ := HX.out
            exact ⟨k + 1, by omega, by go_num, ⟨n, D, by omega, owns_bel ho (bel_alloc (Below.refl _ _) _), hi.congr (St_skip HQ.out), bel_alloc hb _⟩⟩
          case measure => simp [intOf]; omega
      · have HA : Hid (RC (wr.alloc (.cells #[.string st, .int .i64 zs, .bool l, .bool cn, .bool sh, F, .int .i64 to, .int .i64 us, .int .i64 se] 52)) wr.heap.size st zs l cn sh F to us se ∧ ∃ n D, n ≤ 64 * k ∧ (wr.alloc (.cells #[.string st, .int .i64 zs, .bool l, .bool cn, .bool sh, F, .int .i64 to, .int .i64 us, .int .i64 se] 52)).ownsMap Tryd.prog 9 RV w.heap.size n D ∧ Inv D (St t (P2 k 0)) ∧ Below w.heap.size w (wr.alloc (.cells #[.string st, .int .i64 zs, .bool l, .bool cn, .bool sh, F, .int .i64 to, .int .i64 us, .int .i64 se] 52))) := ⟨RC.new _ _ _ _ _ _ _ _ _ _ _, by
          obtain ⟨n, D, hn, ho, hi, hb⟩ := HX.out
          exact ⟨n, D, hn, owns_bel ho (bel_alloc (Below.refl _ _) _), hi.congr St_mid, bel_alloc hb _⟩⟩
        have hb0 : w.heap.size < wr.heap.size := by
          obtain ⟨n, D, hn, ho, hi, hb⟩ := HX.out
          exact ho.lt
        clear HX
        rcases hF with rfl | ⟨f, rfl⟩
        all_goals
          go_wp2_with (go_at_call 68; refine (HP'.out _).mono ?_; rintro e w1 ⟨rfl, hw1⟩; subst w1)
          generalize (wr.alloc (.cells #[.string st, .int .i64 zs, .bool l, .bool cn, .bool sh, _, .int .i64 to, .int .i64 us, .int .i64 se] 52)) = wv at *
          generalize wr.heap.size = b0 at *
          go_loopw [21] (fun i wv => ∃ a : Nat, a ≤ 4 ∧ i = .int .i64 a ∧ Hid (RC wv b0 st zs l cn sh _ to us se ∧ ∃ n D, n ≤ 64 * k + 16 * a ∧ wv.ownsMap Tryd.prog 9 RV w.heap.size n D ∧ Inv D (St t (P2 k a)) ∧ Below w.heap.size w wv)) (fun i _ => 4 - (intOf i).toNat)
          case atStart => exact ⟨0, by omega, rfl, ⟨HA.out.1, HA.out.2⟩⟩
          case round =>
            clear HA
            obtain ⟨a, ha, rfl, HA⟩ := hrel
            by_cases ha4 : a < 4
            · have x4 := sz4 a ha4
              have ha3 : (a : Int) < 4 := by omega
              obtain ⟨z, hz⟩ : ∃ z, szV a = z := ⟨_, rfl⟩
              have HZ : Hid (szV a = z) := ⟨hz⟩
              rw [hz] at x4
              clear hz
              go_wp2
              go_loopw [8] (fun i wu => ∃ c : Nat, c ≤ 16 ∧ i = .int .i64 c ∧ Hid (RC wu b0 st zs l cn sh _ to us se ∧ ∃ n D, n ≤ 64 * k + 16 * a + c ∧ wu.ownsMap Tryd.prog 9 RV w.heap.size n D ∧ Inv D (St t (P3 k a c)) ∧ Below w.heap.size w wu)) (fun i _ => 16 - (intOf i).toNat)
              case atStart => exact ⟨0, by omega, rfl, ⟨HA.out.1, by obtain ⟨n, D, hn, ho, hi, hb⟩ := HA.out.2; exact ⟨n, D, by omega, ho, hi.congr St_open, hb⟩⟩⟩
              case round =>
                clear HA
                obtain ⟨c, hc, rfl, A⟩ := hrel
                obtain ⟨q, hq⟩ : ∃ q, hbK k z c = q := ⟨_, rfl⟩
                have CH := hid2 (HR.out.has z c)
                rw [hq] at CH
                have HB : Hid (hbK k (szV a) c = q) := ⟨by rw [HZ.out]; exact hq⟩
                rcases q with _ | _
                · clear hq
                  go_wp2_with (first
                    | (refine wpList_load_of (t := 52) rfl (by kernel_rfl) (by kernel_rfl) A.out.1.load ?_)
                    | (go_at_call 32; refine (CH.out _ (HW.out.bel (bel_of A.out.2))).mono ?_; rintro e u1 ⟨rfl, hbb⟩; have A : Hid (RC u1 b0 st zs l cn sh _ to us se ∧ ∃ n D, n ≤ 64 * k + 16 * a + c ∧ u1.ownsMap Tryd.prog 9 RV w.heap.size n D ∧ Inv D (St t (P3 k a c)) ∧ Below w.heap.size w u1) := ⟨A.out.1.bel hbb, by obtain ⟨n, D, hn, ho, hi, hb⟩ := A.out.2; exact ⟨n, D, hn, owns_bel ho hbb, hi, bel_trans hb hbb⟩⟩; clear hbb))
                  go_roundw
                  case rel => exact ⟨a + 1, by omega, by go_num, ⟨A.out.1, by obtain ⟨n, D, hn, ho, hi, hb⟩ := A.out.2; exact ⟨n, D, by omega, ho, hi.congr (St_close HB.out (by omega)), hb⟩⟩⟩
                  case measure => simp [intOf]; omega
                · have hc16 : c < 16 := by have := (hbK_parts hq).2.1; omega
                  have CN : Hid (∀ v, Gl v → Calls Tryd.prog 40 _ v _) := ⟨fun v hv => HR.out.name z c v hv hq⟩
                  have hsz := nameV_size k z c
                  obtain ⟨nm, hnm⟩ : ∃ nm, nameV k z c = nm := ⟨_, rfl⟩
                  rw [hnm] at hsz
                  simp only [hnm] at CN
                  have HN : Hid (nameV k (szV a) c = nm) := ⟨by rw [HZ.out]; exact hnm⟩
                  clear hq hnm
                  go_wp2_with (first
                    | (refine wpList_load_of (t := 52) rfl (by kernel_rfl) (by kernel_rfl) A.out.1.load ?_)
                    | (go_at_call 32; refine (CH.out _ (HW.out.bel (bel_of A.out.2))).mono ?_; rintro e u1 ⟨rfl, hbb⟩; have A : Hid (RC u1 b0 st zs l cn sh _ to us se ∧ ∃ n D, n ≤ 64 * k + 16 * a + c ∧ u1.ownsMap Tryd.prog 9 RV w.heap.size n D ∧ Inv D (St t (P3 k a c)) ∧ Below w.heap.size w u1) := ⟨A.out.1.bel hbb, by obtain ⟨n, D, hn, ho, hi, hb⟩ := A.out.2; exact ⟨n, D, hn, owns_bel ho hbb, hi, bel_trans hb hbb⟩⟩; clear hbb)
                    | (go_at_call 40; refine (CN.out _ (HW.out.bel (bel_of A.out.2))).mono ?_; rintro e u2 ⟨rfl, hbb⟩; have A : Hid (RC u2 b0 st zs l cn sh _ to us se ∧ ∃ n D, n ≤ 64 * k + 16 * a + c ∧ u2.ownsMap Tryd.prog 9 RV w.heap.size n D ∧ Inv D (St t (P3 k a c)) ∧ Below w.heap.size w u2) := ⟨A.out.1.bel hbb, by obtain ⟨n, D, hn, ho, hi, hb⟩ := A.out.2; exact ⟨n, D, hn, owns_bel ho hbb, hi, bel_trans hb hbb⟩⟩; clear hbb)
                    | (at_mapUpdate; obtain ⟨n, D, hn, ho, hi, hb⟩ := A.out.2; refine wpList_mapUpdate_own _ rfl _ _ _ 58 rfl 9 56 law9 Tryd.underlying58 _ w.heap.size n _ rfl ho (by unfold maxLen; omega) _ _ _ rfl rfl (key9 (by omega)) _ [] rfl ?_; intro w3 hown3 hg3; have A3 : Hid (RC w3 b0 st zs l cn sh _ to us se ∧ Below w.heap.size w w3) := ⟨A.out.1.grown hg3 (by omega), hb.grown hg3 hb.size (fun j hj => by cases hj; exact Nat.le_refl _)⟩; have I3 := hid2 hi)
                    | go_in)
                  go_roundw
                  case rel => exact ⟨c + 1, by omega, by go_num, ⟨A3.out.1, n + 1, _, by omega, hown3, by
                    have h3 := I3.out.put (E' := St t (P3 k a ((c : Int) + 1))) nm (formE k (szV a) c) (by rw [← HN.out]; exact St_inner HB.out HQ.out)
                    rw [HZ.out] at h3
                    exact h3, A3.out.2⟩⟩
                  case measure => simp [intOf]; omega
            · obtain rfl : a = 4 := by omega
              go_wp2
              go_roundw
              case rel => exact ⟨k + 1, by omega, by go_num, by obtain ⟨n, D, hn, ho, hi, hb⟩ := HA.out.2; exact ⟨n, D, by omega, ho, hi.congr St_end, hb⟩⟩
              case measure => simp [intOf]; omega
    · obtain rfl : k = 36 := by omega
      obtain ⟨n, D, hn, ho, hi, hb⟩ := HX.out
      go_wp2
      go_ret
      exact ⟨rfl, ⟨n, D, ho, hi⟩, hb⟩
end Go.Proofs.YtdgejingoamfeaaDoor

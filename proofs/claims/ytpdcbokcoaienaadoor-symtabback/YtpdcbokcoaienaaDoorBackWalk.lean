/- The walk of SymtabBack. -/
import Derived.Test.YtpdcbokcoaienaaDoorSBack
import Derived.LoopN
namespace Go.Proofs.YtpdcbokcoaienaaDoor
open Go.ChangeShapes Go.WideShapes Go.ChangeAt Go.RowKit
set_option linter.unusedVariables false
set_option linter.unusedSimpArgs false

theorem symtabBack_bad (ao : Option Addr) (c : Nat) (l : List Sym) (a2 : Option Addr) (c2 : Nat) (ss : List ByteArray) (w : World) (hI : IsSyms w ao c l) (hl : l.length ≤ 2199023255552) (hS : IsStrs w a2 c2 ss) (hl2 : ss.length ≤ 8796093022208) (hc : (checkE l ss == 0) = false) :
    Calls Tryd.prog 5 #[.slice ao l.length c, .slice a2 ss.length c2] w fun e w' => e = .returned (.bool true) ∧ Below w.heap.size w w' := by
  have HW : Hid _ := ⟨write_bad ao a2 c c2 l ss w (by omega) hl2 hI.syms hS.strs hI.size hS.size hc⟩
  have hc' : (checkE l ss != 0) = true := by simp [bne, hc]
  generalize checkE l ss = x at *
  clear hI hS
  go_enter Tryd.func5, Tryd.ntmps5
  go_wp2_with (first
    | (go_at_call 6; (with_reducible refine HW.out.mono ?_); rintro e w1 ⟨rfl, hb1⟩)
    | (go_at_call 8; refine (num_any _ _).mono ?_; rintro e w' ⟨rfl, hw'⟩; subst w')
    | (go_at_call 12; refine (live_any _).mono ?_; rintro e w2 ⟨rfl, hb2⟩))
  go_ret
  exact ⟨rfl, hb1.trans (hb2.mono hb1.size)⟩

/-- What the law's loops look at. -/
structure BX (w : World) (ao ar : Option Addr) (l : List Sym) : Prop where
  sl : Syms w ao l
  sr : Syms w ar (ordL l)
theorem BX.below {w w' : World} {ao ar : Option Addr} {l : List Sym} (h : BX w ao ar l) {B : Nat} (hb : Below B w w') (hB : w.heap.size ≤ B) : BX w' ao ar l := ⟨h.sl.below hb hB, h.sr.below hb hB⟩
theorem Syms.at' {w : World} {ao : Option Addr} {l : List Sym} (h : Syms w ao l) {i : Nat} (hi : i < l.length) : ∃ b off, ao = some ⟨b, off, none⟩ ∧ SymAt w b (off + i * 6) (l.getD i Sym.none) := by
  rcases h with h | ⟨b, off, e, h⟩
  · subst h; simp at hi
  · exact ⟨b, off, e, h i hi⟩

set_option maxHeartbeats 8000000 in
set_option maxRecDepth 10000 in
theorem symtabBack_good (ao : Option Addr) (c : Nat) (l : List Sym) (a2 : Option Addr) (c2 : Nat) (ss : List ByteArray) (w : World) (hI : IsSyms w ao c l) (hS : IsStrs w a2 c2 ss) (hl2 : ss.length ≤ 8796093022208) (hf : Fz w) (hc : checkE l ss = 0) :
    Calls Tryd.prog 5 #[.slice ao l.length c, .slice a2 ss.length c2] w fun e w' => e = .returned (.bool true) ∧ Below w.heap.size w w' := by
  obtain ⟨n1, n2, n3, n4, m, hm, hu, hrg, hall⟩ := check_ok hc
  obtain ⟨b, A, hst⟩ := strM_some (l := (ordL l).map Sym.nm) (by
    rw [List.any_eq_false]
    intro s hs
    obtain ⟨y, hy, rfl⟩ := List.mem_map.1 hs
    have := (hall y (ordL_mem hy)).2
    intro hz
    unfold rightB at this
    rw [hz] at this
    simp at this) (by
    intro s hs
    obtain ⟨y, hy, rfl⟩ := List.mem_map.1 hs
    exact n3 y (ordL_mem hy)) (by rw [List.length_map, ordL_len]; exact n1)
  have HW1 : Hid _ := ⟨back_write hc hm hst hl2 hI.size hS.size ao a2 c c2 w hI.syms hS.strs hf⟩
  have HRD : Hid (∀ ay ab cy cb W, BW W ay (24 * (l.length + 1)) cy (symsB (ordL l) A m) → BW W ab b.length cb b → Below w.heap.size w W → Calls Tryd.prog 13 #[.slice ay (24 * (l.length + 1)) cy, .slice ab b.length cb, .int .i64 (1 + (locs l).length), .slice a2 ss.length c2] W fun e w' => ∃ ao c, e = .returned (.tuple #[.slice ao l.length c, .int .i64 0]) ∧ Syms w' ao (ordL l) ∧ Below W.heap.size W w') :=
    ⟨fun ay ab cy cb W h1 h2 hb => back_read hc hm hst hl2 hI.size hS.size ay ab a2 cy cb c2 W h1 h2 (hS.strs.below hb (Nat.le_refl _)) (hf.bel hb hf.z)⟩
  have HW2 : Hid (∀ a c' W, Syms W a (ordL l) → Below w.heap.size w W → Calls Tryd.prog 6 #[.slice a l.length c', .slice a2 ss.length c2] W fun e w' => BEnds l.length (symsB (ordL l) A m) b (1 + (locs l).length) W e w') :=
    ⟨fun a c' W h hb => back_write2 hc hm hst hl2 hI.size hS.size a a2 c' c2 W h (hS.strs.below hb (Nat.le_refl _)) (hf.bel hb hf.z)⟩
  have HL : Hid (∀ i, i < l.length → (((ordL l).getD i Sym.none).b == 0) = decide (i < (locs l).length)) := ⟨loc_at l⟩
  have HP : Hid _ := ⟨loc_pos l⟩
  have HQ : Hid _ := ⟨oth_pos l⟩
  have HPs : Hid _ := ⟨loc_skip l⟩
  have HQs : Hid _ := ⟨oth_skip l⟩
  have HIS : Hid _ := ⟨hI.syms⟩
  have HLN : Hid ((ordL l).length = l.length) := ⟨ordL_len l⟩
  have hn1 : (locs l).length ≤ l.length := List.length_filter_le _ _
  have HO : Hid ((locs l).length + (oths l).length = l.length) := ⟨by have := ordL_len l; unfold ordL at this; rw [List.length_append] at this; exact this⟩
  obtain ⟨Y, hY⟩ : ∃ Y, symsB (ordL l) A m = Y := ⟨_, rfl⟩
  rw [hY] at HW1 HRD HW2
  have hyy : ((strOfNums Y).toList == (strOfNums Y).toList) = true := by simp
  have hbb : ((strOfNums b).toList == (strOfNums b).toList) = true := by simp
  have hnn : ((1 : Int) + (locs l).length == 1 + (locs l).length) = true := by simp
  have tk : True := trivial
  clear hY hI hS hf hc hm hu hrg hall hst n2 n3 n4
  go_enter Tryd.func5, Tryd.ntmps5
  go_wp2_with (first
    | (go_at_call 6; have _t := tk; (with_reducible refine HW1.out.mono ?_); rintro e w1 ⟨ay, cy, ab, cb, rfl, y1, b1, hb1⟩; clear tk _t)
    | (go_at_call 8; refine (num_any _ _).mono ?_; rintro e w' ⟨rfl, hw'⟩; subst w')
    | (go_at_call 13; (with_reducible refine (HRD.out _ _ _ _ _ y1 b1 hb1).mono ?_); rintro e w2 ⟨ar, cr, rfl, hsr, hb2⟩))
  have B2 : Below w.heap.size w w2 := hb1.trans (hb2.mono hb1.size)
  have X2 : BX w2 ao ar l := ⟨HIS.out.below B2 (Nat.le_refl _), hsr⟩
  have HX : Hid _ := ⟨X2⟩
  have HB2 : Hid _ := ⟨B2⟩
  have HY1 : Hid _ := ⟨y1⟩
  have Hb1 : Hid _ := ⟨b1⟩
  have Hb2 : Hid _ := ⟨hb2⟩
  clear X2 B2 y1 b1 hb1 hb2 hsr
  go_loopw [12] (fun i wr => ∃ k : Nat, k ≤ l.length ∧ i = .int .i64 k ∧ Hid (Below w2.heap.size w2 wr)) (fun i _ => l.length - (intOf i).toNat)
  case atStart => exact ⟨0, by omega, rfl, ⟨Below.refl _ _⟩⟩
  case round =>
    obtain ⟨k, hk, rfl, HB⟩ := hrel
    by_cases hlt : k < l.length
    · obtain ⟨br, off, rfl, c0, c1, c2, c3, c4, c5⟩ := (HX.out.below HB.out (Nat.le_refl _)).sr.at' (i := k) (by rw [HLN.out]; exact hlt)
      have hbk := HL.out k hlt
      generalize (ordL l).getD k Sym.none = s at *
      have i1 : (0 : Int) ≤ (k : Int) := by omega
      have i2 : (k : Int) < (l.length : Int) := by omega
      clear c0 c1 c2 c3 c5
      by_cases hkn : k < (locs l).length
      · rw [decide_eq_true hkn] at hbk
        have i3 : (k : Int) + 1 < 1 + ((locs l).length : Int) := by omega
        go_wp2
        go_roundw
        case rel => exact ⟨k + 1, hlt, by go_num, HB⟩
        case measure => simp [intOf]; omega
      · rw [decide_eq_false hkn] at hbk
        have i3 : ¬ (k : Int) + 1 < 1 + ((locs l).length : Int) := by omega
        go_wp2
        go_roundw
        case rel => exact ⟨k + 1, hlt, by go_num, HB⟩
        case measure => simp [intOf]; omega
    · obtain rfl : k = l.length := by omega
      go_wp2
      go_loopw [13, 11] (fun p v wr => (p = .int .i64 0 ∧ v = .int .i64 0 ∧ Hid (Below w2.heap.size w2 wr)) ∨ (p = .int .i64 1 ∧ v = .int .i64 ((locs l).length : Nat) ∧ Hid (Below w2.heap.size w2 wr)) ∨ (p = .int .i64 2 ∧ v = .int .i64 (l.length : Nat) ∧ Hid (Below w2.heap.size w2 wr))) (fun p _ _ => 2 - (intOf p).toNat)
      case atStart => exact .inl ⟨rfl, rfl, HB⟩
      case round =>
        clear HB
        rcases hrel with ⟨rfl, rfl, HB⟩ | ⟨rfl, rfl, HB⟩ | ⟨rfl, rfl, HB⟩
        · skip
          go_wp2
          go_loopw [14, 11] (fun i v wr => ∃ k : Nat, k ≤ l.length ∧ i = .int .i64 k ∧ v = .int .i64 (((locs (l.take (k))).length : Nat)) ∧ Hid (Below w2.heap.size w2 wr)) (fun i _ _ => l.length - (intOf i).toNat)
          case atStart => exact ⟨0, by omega, rfl, by simp [locs, oths], HB⟩
          case round =>
            obtain ⟨k, hk, rfl, rfl, HB⟩ := hrel
            by_cases hlt : k < l.length
            · obtain ⟨bl, ol, rfl, c0, c1, c2, c3, c4, c5⟩ := (HX.out.below HB.out (Nat.le_refl _)).sl.at' hlt
              have i1 : (0 : Int) ≤ (k : Int) := by omega
              have i2 : (k : Int) < (l.length : Int) := by omega
              cases hb : ((l.getD k Sym.none).b == 0)
              · have hsk := HPs.out k hlt hb
                have HSK : Hid _ := ⟨hsk⟩
                generalize l.getD k Sym.none = s at *
                clear c0 c1 c2 c3 c5 hsk
                go_wp2
                go_roundw
                case rel => exact ⟨k + 1, hlt, by go_num, by rw [HSK.out], HB⟩
                case measure => simp [intOf]; omega
              · obtain ⟨e1, e2, e3⟩ := HP.out k hlt hb
                obtain ⟨br, rf, rfl, d0, d1, d2, d3, d4, d5⟩ := (HX.out.below HB.out (Nat.le_refl _)).sr.at' (i := ((locs (l.take (k))).length : Nat)) (by rw [HLN.out]; exact e2)
                rw [e1] at d0 d1 d2 d3 d4 d5
                have HE3 : Hid _ := ⟨e3⟩
                generalize l.getD k Sym.none = s at *
                generalize hj : ((locs (l.take (k))).length : Nat) = j at *
                have HJ : Hid _ := ⟨hj⟩
                have i3 : (0 : Int) ≤ (j : Int) := by omega
                have i4 : (j : Int) < (l.length : Int) := by omega
                have hn := neq_sym s
                dsimp only [Sym.val] at hn
                clear hj e1 e3
                go_wp2
                go_quiet (fail)
                go_wp2
                go_roundw
                case rel => exact ⟨k + 1, hlt, by go_num, by (have h1 := HE3.out; have h2 := HJ.out; go_num), ⟨below_drewN HB.out _⟩⟩
                case measure => simp [intOf]; omega
            · obtain rfl : k = l.length := by omega
              rw [List.take_of_length_le (Nat.le_refl _)]
              go_wp2
              go_roundw
              case rel => exact .inr (.inl ⟨by go_num, rfl, HB⟩)
              case measure => simp [intOf]
        · skip
          go_wp2
          go_loopw [14, 11] (fun i v wr => ∃ k : Nat, k ≤ l.length ∧ i = .int .i64 k ∧ v = .int .i64 (((locs l).length + (oths (l.take (k))).length : Nat)) ∧ Hid (Below w2.heap.size w2 wr)) (fun i _ _ => l.length - (intOf i).toNat)
          case atStart => exact ⟨0, by omega, rfl, by simp [locs, oths], HB⟩
          case round =>
            obtain ⟨k, hk, rfl, rfl, HB⟩ := hrel
            by_cases hlt : k < l.length
            · obtain ⟨bl, ol, rfl, c0, c1, c2, c3, c4, c5⟩ := (HX.out.below HB.out (Nat.le_refl _)).sl.at' hlt
              have i1 : (0 : Int) ≤ (k : Int) := by omega
              have i2 : (k : Int) < (l.length : Int) := by omega
              cases hb : ((l.getD k Sym.none).b == 0)
              · obtain ⟨e1, e2, e3⟩ := HQ.out k hlt hb
                obtain ⟨br, rf, rfl, d0, d1, d2, d3, d4, d5⟩ := (HX.out.below HB.out (Nat.le_refl _)).sr.at' (i := ((locs l).length + (oths (l.take (k))).length : Nat)) (by rw [HLN.out]; exact e2)
                rw [e1] at d0 d1 d2 d3 d4 d5
                have HE3 : Hid _ := ⟨e3⟩
                generalize l.getD k Sym.none = s at *
                generalize hj : ((locs l).length + (oths (l.take (k))).length : Nat) = j at *
                have HJ : Hid _ := ⟨hj⟩
                have i3 : (0 : Int) ≤ (j : Int) := by omega
                have i4 : (j : Int) < (l.length : Int) := by omega
                have hn := neq_sym s
                dsimp only [Sym.val] at hn
                clear hj e1 e3
                go_wp2
                go_quiet (fail)
                go_wp2
                go_roundw
                case rel => exact ⟨k + 1, hlt, by go_num, by (have h1 := HE3.out; have h2 := HJ.out; go_num), ⟨below_drewN HB.out _⟩⟩
                case measure => simp [intOf]; omega
              · have hsk := HQs.out k hlt hb
                have HSK : Hid _ := ⟨hsk⟩
                generalize l.getD k Sym.none = s at *
                clear c0 c1 c2 c3 c5 hsk
                go_wp2
                go_roundw
                case rel => exact ⟨k + 1, hlt, by go_num, by rw [HSK.out], HB⟩
                case measure => simp [intOf]; omega
            · obtain rfl : k = l.length := by omega
              rw [List.take_of_length_le (Nat.le_refl _)]
              go_wp2
              go_roundw
              case rel => exact .inr (.inr ⟨by go_num, by rw [HO.out], HB⟩)
              case measure => simp [intOf]
        · have hX := HX.out.below HB.out (Nat.le_refl _)
          have B3 := HB2.out.trans (HB.out.mono HB2.out.size)
          have HB3 : Hid _ := ⟨B3⟩
          have HR3 : Hid _ := ⟨hX.sr⟩
          clear hX B3
          go_wp2_with (first
            | (go_at_call 6; (with_reducible refine (HW2.out _ _ _ HR3.out HB3.out).mono ?_); rintro e w4 ⟨ay4, cy4, ab4, cb4, rfl, y4, b4, hb4⟩; have k1 := y4.cv _ (Below.refl _ _); have k2 := b4.cv _ (Below.refl _ _); have b14 := Hb2.out.trans ((HB.out.trans (hb4.mono HB.out.size)).mono Hb2.out.size); have k3 := HY1.out.cv _ b14; have k4 := Hb1.out.cv _ b14; have HB4 : Hid _ := ⟨HB3.out.trans (hb4.mono HB3.out.size)⟩; clear y4 b4 hb4 b14)
            | (go_at_call 8; refine (num_any _ _).mono ?_; rintro e w' ⟨rfl, hw'⟩; subst w')
            | (go_at_call 12; refine (live_any _).mono ?_; rintro e w5 ⟨rfl, hb5⟩))
          go_ret
          exact ⟨rfl, HB4.out.trans (hb5.mono HB4.out.size)⟩

theorem symtabBack_walk (ao : Option Addr) (c : Nat) (l : List Sym) (a2 : Option Addr) (c2 : Nat) (ss : List ByteArray) (w : World) (hI : IsSyms w ao c l) (hl : l.length ≤ 2199023255552) (hS : IsStrs w a2 c2 ss) (hl2 : ss.length ≤ 8796093022208) (hf : Fz w) :
    Calls Tryd.prog 5 #[.slice ao l.length c, .slice a2 ss.length c2] w fun e w' => e = .returned (.bool true) ∧ Below w.heap.size w w' := by
  cases hc : (checkE l ss == 0)
  · exact symtabBack_bad ao c l a2 c2 ss w hI hl hS hl2 hc
  · exact symtabBack_good ao c l a2 c2 ss w hI hS hl2 hf (by simpa using hc)
end Go.Proofs.YtpdcbokcoaienaaDoor

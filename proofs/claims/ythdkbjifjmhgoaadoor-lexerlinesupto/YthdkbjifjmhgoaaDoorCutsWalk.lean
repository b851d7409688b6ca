/- The walk of LexerCuts. -/
import Derived.Test.YthdkbjifjmhgoaaDoorLxTurn
namespace Go.Proofs.YthdkbjifjmhgoaaDoor
open Go.ChangeShapes Go.WideShapes Go.ChangeAt Go.RowKit
set_option linter.unusedVariables false
set_option linter.unusedSimpArgs false

theorem Alike.refl (l : List TL) (b : Bool) : Alike l l b := ⟨rfl, fun _ => rfl⟩
/-- What an All answered: its list, line and error. -/
def mL (m : Except (Int × Int) (List TL)) : List TL := match m with | .error _ => [] | .ok ts => ts
def mN (m : Except (Int × Int) (List TL)) : Int := match m with | .error p => p.1 | .ok _ => 0
def mE (m : Except (Int × Int) (List TL)) : Int := match m with | .error p => p.2 | .ok _ => 0
theorem AEndsP.open {m : Except (Int × Int) (List TL)} {w w' : World} {e : Ending} (h : AEndsP m w e w') : ∃ ao c, e = .returned (.tuple #[.slice ao (mL m).length c, .int .i64 (mN m), .int .i64 (mE m)]) ∧ OwnTP w' w.heap.size (.slice ao (mL m).length c) (mL m) ∧ Below w.heap.size w w' := by
  cases m with
  | error p => exact ⟨none, 0, h.1, OwnTP.nil _ _, h.2⟩
  | ok ts =>
    obtain ⟨v, he, ho, hb⟩ := h
    obtain ⟨ao, c, rfl, _⟩ := OwnTP.any ho
    exact ⟨ao, c, he, ho, hb⟩
theorem AEnds.open {m : Except (Int × Int) (List TL)} {w w' : World} {e : Ending} (h : AEnds m w e w') : ∃ ao c, e = .returned (.tuple #[.slice ao (mL m).length c, .int .i64 (mN m), .int .i64 (mE m)]) ∧ OwnT w' w.heap.size (.slice ao (mL m).length c) (mL m) ∧ Below w.heap.size w w' := by
  cases m with
  | error p => exact ⟨none, 0, h.1, OwnT.nil _ _, h.2⟩
  | ok ts =>
    obtain ⟨v, he, ho, hb⟩ := h
    obtain ⟨ao, c, rfl, _⟩ := OwnT.any ho
    exact ⟨ao, c, he, ho, hb⟩
theorem OwnT.toks {w : World} {base : Nat} {ao : Option Addr} {c : Nat} {l : List TL} (h : OwnT w base (.slice ao l.length c) l) : Toks w ao l := by
  obtain ⟨ao', c', hv, _, _, ht, _⟩ := OwnT.any h
  simp only [Value.slice.injEq] at hv
  obtain ⟨rfl, _, rfl⟩ := hv
  exact ht
theorem OwnTP.toks {w : World} {base : Nat} {ao : Option Addr} {c : Nat} {l : List TL} (h : OwnTP w base (.slice ao l.length c) l) : ToksP w ao l := by
  obtain ⟨ao', c', hv, _, _, ht, _⟩ := OwnTP.any h
  simp only [Value.slice.injEq] at hv
  obtain ⟨rfl, _, rfl⟩ := hv
  exact ht
theorem mL_len (l : List UInt8) : (mL (allM l)).length ≤ 9223372036854775806 := by
  cases h : allM l with
  | error p => simp [mL]
  | ok ts => exact all_len h

set_option maxHeartbeats 8000000 in
set_option maxRecDepth 10000 in
theorem lexerCuts_walk (HA : PAll) (s : ByteArray) (w : World) (hE : Er w) :
    Calls Tryd.prog 3 #[.string s] w fun e w' => e = .returned (.bool true) ∧ Below w.heap.size w w' := by
  have HP : Hid (∀ W, Below w.heap.size w W → Calls Tryd.prog 9 #[.string s] W fun e w' => ∃ ao c, e = .returned (.tuple #[.slice ao (mL (allM (lo s))).length c, .int .i64 (mN (allM (lo s))), .int .i64 (mE (allM (lo s)))]) ∧ OwnTP w' W.heap.size (.slice ao (mL (allM (lo s))).length c) (mL (allM (lo s))) ∧ Below W.heap.size W w') := ⟨fun W hW => (HA s W (hE.below hW hE.sz)).mono fun e w' h => AEndsP.open h⟩
  have HR : Hid (∀ W, Calls Tryd.prog 10 #[.string s] W fun e w' => ∃ ao c, e = .returned (.tuple #[.slice ao (mL (allM (lo s))).length c, .int .i64 (mN (allM (lo s))), .int .i64 (mE (allM (lo s)))]) ∧ OwnT w' W.heap.size (.slice ao (mL (allM (lo s))).length c) (mL (allM (lo s))) ∧ Below W.heap.size W w') := ⟨fun W => (rall_any s W).mono fun e w' h => AEnds.open h⟩
  have HL : Hid (∀ W, Below w.heap.size w W → Calls Tryd.prog 13 #[] W fun e w' => e = .returned (.bool true) ∧ Below W.heap.size W w') := ⟨fun W hW => live_any HA W (hE.below hW hE.sz)⟩
  have hlen := mL_len (lo s)
  generalize mL (allM (lo s)) = L at *
  generalize mN (allM (lo s)) = N at *
  generalize mE (allM (lo s)) = E at *
  have hnn : (N != N) = false := by simp
  have hee : (E != E) = false := by simp
  have HSM : Hid (∀ ao c bo d W, ToksP W ao L → Toks W bo L → Calls Tryd.prog 11 #[.slice ao L.length c, .slice bo L.length d, .bool true] W fun e w' => e = .returned (.bool true) ∧ Below W.heap.size W w') := ⟨fun ao c bo d W h1 h2 => same_any ao bo c d L L true W hlen h1 h2 (Alike.refl _ _)⟩
  have tk : True := trivial
  clear HA
  go_enter Tryd.func3, Tryd.ntmps3
  go_wp2_with (first
    | (go_at_call 9; have _t := tk; (with_reducible refine (HP.out _ (Below.refl _ _)).mono ?_); rintro e w1 ⟨ao, ca, rfl, o1, hb1⟩; clear tk _t)
    | (go_at_call 10; (with_reducible refine (HR.out _).mono ?_); rintro e w2 ⟨bo, cb, rfl, o2, hb2⟩; have p2 := (OwnTP.bel o1 hb2); have B2 := hb1.trans (hb2.mono hb1.size))
    | (go_at_call 11; (with_reducible refine (HSM.out _ _ _ _ _ p2.toks o2.toks).mono ?_); rintro e w3 ⟨rfl, hb3⟩; have B3 := B2.trans (hb3.mono B2.size); have p3 := OwnTP.bel p2 hb3; have q3 := OwnT.bel o2 hb3)
    | (go_at_call 12; refine (num_any _ _).mono ?_; rintro e w' ⟨rfl, hw'⟩; subst w'))
  have Hq3 : Hid _ := ⟨q3⟩
  have HB3 : Hid _ := ⟨B3⟩
  by_cases hz : L.length = 0
  · have hzi : ¬ (0 : Int) < (L.length : Int) := by omega
    clear p2 p3 o1 o2 q3 B2 B3 hb1 hb2 hb3 hz
    go_loopw [9] (fun i wr => i = .int .i64 0 ∧ Hid (wr = w3)) (fun _ _ => 0)
    case atStart => exact ⟨rfl, ⟨rfl⟩⟩
    case round =>
      obtain ⟨rfl, HW⟩ := hrel
      have QW : OwnT wr w1.heap.size (.slice bo L.length cb) L := by rw [HW.out]; exact Hq3.out
      have BW : Below w.heap.size w wr := by rw [HW.out]; exact HB3.out
      go_wp2_with (first
        | (go_at_call 9; (with_reducible refine (HP.out _ BW).mono ?_); rintro e w4 ⟨co, cc, rfl, o4, hb4⟩; have q4 := (OwnT.bel QW hb4).toks; have B4 := BW.trans (hb4.mono BW.size))
        | (go_at_call 11; (with_reducible refine (HSM.out _ _ _ _ _ o4.toks q4).mono ?_); rintro e w5 ⟨rfl, hb5⟩; have B5 := B4.trans (hb5.mono B4.size))
        | (go_at_call 13; (with_reducible refine (HL.out _ B5).mono ?_); rintro e w6 ⟨rfl, hb6⟩))
      go_ret
      exact ⟨rfl, B5.trans (hb6.mono B5.size)⟩
  · obtain ⟨g, hao, hg1, hg2, hsf⟩ := OwnTP.soft o1 (by omega)
    subst hao
    have S3 : SfT w3 g L.length := (hsf.turn hb2).turn hb3
    have HS3 : Hid _ := ⟨S3⟩
    have HG : Hid (w.heap.size ≤ g ∧ ∀ k, (Value.slice bo L.length cb).ownBlock = some k → ¬ k = g) := ⟨hg1, fun k hk e => by have := (o2.lt k hk).1; omega⟩
    clear p2 p3 o1 o2 q3 B2 B3 hb1 hb2 hb3 hsf S3
    go_loopw [9] (fun i wr => ∃ k : Nat, k ≤ L.length ∧ i = .int .i64 k ∧ Hid (SfT wr g L.length ∧ Turn (fun x => x = g) w3 wr)) (fun i _ => L.length - (intOf i).toNat)
    case atStart => exact ⟨0, by omega, rfl, ⟨HS3.out, Turn.refl _ _⟩⟩
    case round =>
      obtain ⟨k, hk, rfl, HW⟩ := hrel
      by_cases hlt : k < L.length
      · have hlti : (k : Int) < (L.length : Int) := by omega
        have hk0 : (0 : Int) ≤ (k : Int) := by omega
        obtain ⟨⟨v0, c0⟩, f0⟩ := HW.out.1.cell (k * 4) (by omega)
        obtain ⟨⟨v1, c1⟩, f1⟩ := HW.out.1.cell (k * 4 + 1) (by omega)
        obtain ⟨⟨v2, c2⟩, f2⟩ := HW.out.1.cell (k * 4 + 2) (by omega)
        obtain ⟨⟨v3, c3⟩, f3⟩ := HW.out.1.cell (k * 4 + 3) (by omega)
        go_wp2
        go_roundw
        case rel => exact ⟨k + 1, hlt, by go_num, ⟨(((HW.out.1.set _ _).set _ _).set _ _).set _ _, ((((HW.out.2.setCell _ rfl _).setCell _ rfl _).setCell _ rfl _).setCell _ rfl _)⟩⟩
        case measure => simp [intOf]; omega
      · obtain rfl : k = L.length := by omega
        have BW := HB3.out.trans (HW.out.2.below HB3.out.size (fun x e => by rw [e]; exact HG.out.1))
        have QW : OwnT wr w1.heap.size (.slice bo L.length cb) L := HW.out.2.row Hq3.out HG.out.2
        go_wp2_with (first
          | (go_at_call 9; (with_reducible refine (HP.out _ BW).mono ?_); rintro e w4 ⟨co, cc, rfl, o4, hb4⟩; have q4 := (OwnT.bel QW hb4).toks; have B4 := BW.trans (hb4.mono BW.size))
          | (go_at_call 11; (with_reducible refine (HSM.out _ _ _ _ _ o4.toks q4).mono ?_); rintro e w5 ⟨rfl, hb5⟩; have B5 := B4.trans (hb5.mono B4.size))
          | (go_at_call 13; (with_reducible refine (HL.out _ B5).mono ?_); rintro e w6 ⟨rfl, hb6⟩))
        go_ret
        exact ⟨rfl, B5.trans (hb6.mono B5.size)⟩
end Go.Proofs.YthdkbjifjmhgoaaDoor

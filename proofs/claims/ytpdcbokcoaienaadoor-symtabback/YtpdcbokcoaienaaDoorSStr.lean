/- The contract of Strings. -/
import Derived.Test.YtpdcbokcoaienaaDoorSPlace
import Derived.OwnWalk
namespace Go.Proofs.YtpdcbokcoaienaaDoor
open Go.ChangeShapes Go.WideShapes Go.ChangeAt Go.RowKit Go.Maps
set_option linter.unusedVariables false
set_option linter.unusedSimpArgs false

theorem place_any (T : TB) (base tp mb : Nat) (vb : Value) (s : ByteArray) (w : World) (h : TA w base tp vb mb T) (hs : s.size ≤ 1048576) (h1 : 1 ≤ T.b.length) (hT : T.b.length ≤ 1048576) (hbase : base ≤ w.heap.size) :
    Calls Tryd.prog 41 #[.pointer (some ⟨tp, 0, none⟩), .string s] w fun e w' => e = .returned (.int .i64 (T.at' s)) ∧ ∃ vb', TA w' base tp vb' mb (T.put s) ∧ Turn (TS w base tp mb) w w' := by
  cases hp : T.m s with
  | some p =>
    have e1 : T.at' s = p := by unfold TB.at'; rw [hp]; rfl
    have e2 : T.put s = T := by unfold TB.put; rw [hp]; rfl
    rw [e1, e2]
    refine (place_in T base tp mb vb s p w h (by unfold maxLen; omega) hp).mono ?_
    rintro e w' ⟨rfl, rfl⟩
    exact ⟨rfl, vb, h, Turn.refl _ _⟩
  | none =>
    have e1 : T.at' s = T.b.length := by unfold TB.at'; rw [hp]; rfl
    rw [e1]
    exact place_new T base tp mb vb s w h hs hp h1 hT hbase

/-- Names, one behind the other, into a table. -/
def strF : List ByteArray → TB → List Int → Option (TB × List Int)
  | [], T, A => some (T, A)
  | s :: r, T, A => if 1048576 < (T.put s).b.length then none else strF r (T.put s) (A ++ [T.at' s])
def strM (l : List ByteArray) : Except Int (List Int × List Int) :=
  if l.any zeroB then .error 80 else if l.any longB then .error 6 else
  match strF l T0 [] with
  | none => .error 6
  | some p => .ok (p.1.b, p.2)

theorem put_len (T : TB) (s : ByteArray) : T.b.length ≤ (T.put s).b.length := by
  unfold TB.put; split
  · exact Nat.le_refl _
  · simp

/-- How Strings ends. -/
def SEnds (m : Except Int (List Int × List Int)) (w : World) (e : Ending) (w' : World) : Prop :=
  match m with
  | .error x => e = .returned (.tuple #[.slice none 0 0, .slice none 0 0, .int .i64 x]) ∧ Below w.heap.size w w'
  | .ok p => ∃ vb va, e = .returned (.tuple #[vb, va, .int .i64 0]) ∧ Own w' w.heap.size vb p.1 ∧ OwnI w' w.heap.size va p.2 ∧ Below w.heap.size w w'

theorem TA.turn {w w' : World} {base tp mb : Nat} {vb : Value} {T : TB} (h : TA w base tp vb mb T) {S : Nat → Prop} (ht : Turn S w w') (h1 : ¬ S tp) (h2 : ¬ S mb) (h3 : ∀ k, vb.ownBlock = some k → ¬ S k) : TA w' base tp vb mb T := by
  obtain ⟨n, D, hown, hn, hi⟩ := h.map
  refine ⟨by rw [ht.block tp h.lt h1]; exact h.cells, h.lo, h.mlo, ht.row h.own h3, n, D, ?_, hn, hi⟩
  have hl := hown.lt
  obtain ⟨es, clock, hb, r⟩ := hown
  exact ⟨es, clock, by rw [ht.block mb hl h2]; exact hb, r⟩

/-- A row of another kind grows: the table stays. -/
theorem TA.grows {w w' : World} {base tp mb : Nat} {vb : Value} {T : TB} (h : TA w base tp vb mb T) (o : Obj) {B e s n : Nat} {v : Value} {xs : List Value} (hr : w.ownsRow B e s v n xs) (h5 : e ≠ 5) (h50 : e ≠ 76) (hg : (w.alloc o).grownBy w' v.ownBlock) : TA w' base tp vb mb T := by
  have ap := h.apart hr h5 h50
  refine h.turn (S := fun k => v.ownBlock = some k) (((Turn.refl _ w).alloc o).grown hg (fun k _ e => e)) (fun e => ap tp e (.inl rfl)) (fun e => ap mb e (.inr (.inl rfl))) (fun k hk e => ?_)
  exact ap k e (.inr (.inr (own_five h.own hk)))

theorem TA.vlies {w : World} {base tp mb : Nat} {vb : Value} {T : TB} (h : TA w base tp vb mb T) (h1 : 1 ≤ T.b.length) : ∃ g cap, w.cell? ⟨tp, 0, none⟩ = some (.slice (some ⟨g, 0, none⟩) T.b.length cap) ∧ vb = .slice (some ⟨g, 0, none⟩) T.b.length cap := by
  obtain ⟨g, cap, hv, _⟩ := h.own.lies h1
  exact ⟨g, cap, by rw [h.vcell, hv], hv⟩

set_option maxHeartbeats 2000000 in
theorem strings_any (ao : Option Addr) (c : Nat) (l : List ByteArray) (w : World) (hl : l.length ≤ 17592186044415) (hr : Strs w ao l) :
    Calls Tryd.prog 17 #[.slice ao l.length c] w fun e w' => SEnds (strM l) w e w' := by
  have C1 := containsFunc_any _ zeroB ao c l w (by omega) hr enters_hasZero hasZero_any
  have C2 := containsFunc_any _ longB ao c l w (by omega) hr enters_isTooLong isTooLong_any
  unfold strM
  cases hz : l.any zeroB
  · cases hg : l.any longB
    · have HL : Hid (∀ s ∈ l, s.size ≤ 255) := ⟨fun s hs => by
        have := List.any_eq_false.1 hg s hs
        simpa [longB] using this⟩
      rw [hz] at C1
      rw [hg] at C2
      have HC1 : Hid _ := ⟨C1⟩
      have HC2 : Hid _ := ⟨C2⟩
      have HR : Hid (Strs w ao l) := ⟨hr⟩
      clear C1 C2 hz hg hr
      obtain ⟨M, HM⟩ : ∃ M, Hid ((match strF l T0 [] with | none => (.error 6 : Except Int (List Int × List Int)) | some p => .ok (p.1.b, p.2)) = M) := ⟨_, ⟨rfl⟩⟩
      simp only [Bool.false_eq_true, if_false]
      rw [HM.out]
      go_enter Tryd.func17, Tryd.ntmps17
      go_wp2_with (first
        | (go_at_call 37; (first | refine HC1.out.mono ?_ | refine HC2.out.mono ?_); rintro e w' ⟨rfl, hw'⟩; subst w')
        | (go_at_call 40; refine (newTable_any _).mono ?_; rintro e w1 ⟨tp, vb, mb, rfl, hTA, hb1⟩))
      go_loopw [15, 3] (fun i a wr => ∃ (k : Nat) (T : TB) (A : List Int), k ≤ l.length ∧ i = .int .i64 k ∧ 1 ≤ T.b.length ∧ T.b.length ≤ 1048576 ∧ A.length = k ∧ Hid (∃ vb, TA wr w.heap.size tp vb mb T) ∧ Hid (OwnI wr w.heap.size a A) ∧ Hid (strF l T0 [] = strF (l.drop k) T A) ∧ Below w.heap.size w wr) (fun i _ _ => l.length - (intOf i).toNat)
      case atStart => exact ⟨0, T0, [], by omega, rfl, by simp [T0], by simp [T0], rfl, ⟨_, hTA⟩, ⟨OwnI.nil _ _⟩, ⟨by simp⟩, hb1⟩
      case round =>
        obtain ⟨k, T, A, hk, rfl, h1, hT, hA, ⟨vb1, hTA1⟩, HOI, HF, hbr⟩ := hrel
        by_cases hlt : k < l.length
        · obtain ⟨b, off, rfl, hcell⟩ : ∃ b off, ao = some ⟨b, off, none⟩ ∧ ∀ i, i < l.length → wr.cell? ⟨b, off + i, none⟩ = some (.string (l.getD i ByteArray.empty)) := by
            rcases HR.out.below hbr (Nat.le_refl _) with h | h
            · subst h; simp at hlt
            · exact h
          have hcx := hcell k hlt
          have hget : l.getD k ByteArray.empty = l[k] := by simp [hlt]
          rw [hget] at hcx
          have hsz := HL.out l[k] (List.getElem_mem hlt)
          have P := place_any T w.heap.size tp mb vb1 l[k] wr hTA1 (by omega) h1 hT hbr.size
          have F : strF (l.drop k) T A = if 1048576 < (T.put l[k]).b.length then none else strF (l.drop (k + 1)) (T.put l[k]) (A ++ [T.at' l[k]]) := by
            rw [List.drop_eq_getElem_cons hlt]; rfl
          have hp := put_len T l[k]
          obtain ⟨p, hpe⟩ : ∃ p, T.at' l[k] = p := ⟨_, rfl⟩
          obtain ⟨T', hTe⟩ : ∃ T', T.put l[k] = T' := ⟨_, rfl⟩
          rw [hpe] at P F
          rw [hTe] at P F hp
          have HP : Hid _ := ⟨P⟩
          have HTA1 : Hid _ := ⟨hTA1⟩
          have HF2 : Hid _ := ⟨F⟩
          have h2 : 1 ≤ T'.b.length := by omega
          have HB : Hid (Below w.heap.size w wr) := ⟨hbr⟩
          clear P F hcell hget hpe hTe hTA1 hbr
          by_cases hbig : 1048576 < T'.b.length
          · go_wp2_with (first
              | (go_at_call 41; refine HP.out.mono ?_; rintro e w2 ⟨rfl, vb2, hTA2, hTu⟩; have hOI2 : OwnI w2 w.heap.size _ A := hTu.row HOI.out (HTA1.out.apart HOI.out (by decide) (by decide)); have hB2 : Below w.heap.size w w2 := HB.out.trans (HTA1.out.turn_below hTu HB.out.size))
              | (at_builtin; refine append_intG _ rfl _ _ rfl w.heap.size _ A rfl hOI2 p rfl (by omega) hB2.size ?_; intro v3 w3 hOI3 hg3; have hTA3 := hTA2.grows (.cells #[.int .i64 p] 3) hOI2 (by decide) (by decide) hg3; have hB3 : Below w.heap.size w w3 := (hB2.alloc hB2.size _).grown hg3 (by have := hB2.size; simp; omega) (own_block hOI2); obtain ⟨g4, cap4, c4, hv4⟩ := hTA3.vlies h2))
            go_ret3
            have hM : M = .error 6 := by rw [← HM.out, HF.out, HF2.out, if_pos hbig]
            rw [hM]
            exact ⟨rfl, hB3⟩
          · go_wp2_with (first
              | (go_at_call 41; refine HP.out.mono ?_; rintro e w2 ⟨rfl, vb2, hTA2, hTu⟩; have hOI2 : OwnI w2 w.heap.size _ A := hTu.row HOI.out (HTA1.out.apart HOI.out (by decide) (by decide)); have hB2 : Below w.heap.size w w2 := HB.out.trans (HTA1.out.turn_below hTu HB.out.size))
              | (at_builtin; refine append_intG _ rfl _ _ rfl w.heap.size _ A rfl hOI2 p rfl (by omega) hB2.size ?_; intro v3 w3 hOI3 hg3; have hTA3 := hTA2.grows (.cells #[.int .i64 p] 3) hOI2 (by decide) (by decide) hg3; have hB3 : Below w.heap.size w w3 := (hB2.alloc hB2.size _).grown hg3 (by have := hB2.size; simp; omega) (own_block hOI2); obtain ⟨g4, cap4, c4, hv4⟩ := hTA3.vlies h2))
            go_roundw
            case rel => exact ⟨k + 1, T', A ++ [p], hlt, by go_num, h2, by omega, by simp [hA], ⟨_, hTA3⟩, ⟨hOI3⟩, ⟨by rw [HF.out, HF2.out, if_neg hbig]⟩, hB3⟩
            case measure => simp [intOf]; omega
        · obtain rfl : k = l.length := by omega
          have hM : M = .ok (T.b, A) := by rw [← HM.out, HF.out, List.drop_of_length_le (Nat.le_refl _)]; rfl
          have HMM : Hid _ := ⟨hM⟩
          obtain ⟨g4, cap4, c4, hv4⟩ := hTA1.vlies h1
          have HOB : Hid (Own wr w.heap.size (.slice (some ⟨g4, 0, none⟩) T.b.length cap4) T.b) := ⟨hv4 ▸ hTA1.own⟩
          have HB : Hid (Below w.heap.size w wr) := ⟨hbr⟩
          clear hM hTA1 hv4 hbr
          go_wp2
          go_ret3
          rw [HMM.out]
          exact ⟨_, _, rfl, HOB.out, HOI.out, HB.out⟩
    · rw [hz] at C1
      rw [hg] at C2
      have HC1 : Hid _ := ⟨C1⟩
      have HC2 : Hid _ := ⟨C2⟩
      clear C1 C2 hz hg hr
      simp only [Bool.false_eq_true, if_false, if_true]
      go_enter Tryd.func17, Tryd.ntmps17
      go_wp2_with (go_at_call 37; (first | refine HC1.out.mono ?_ | refine HC2.out.mono ?_); rintro e w' ⟨rfl, hw'⟩; subst w')
      go_ret3
      exact ⟨rfl, Below.refl _ _⟩
  · rw [hz] at C1
    have HC1 : Hid _ := ⟨C1⟩
    clear C1 C2 hz hr
    simp only [if_true]
    go_enter Tryd.func17, Tryd.ntmps17
    go_wp2_with (go_at_call 37; refine HC1.out.mono ?_; rintro e w' ⟨rfl, hw'⟩; subst w')
    go_ret3
    exact ⟨rfl, Below.refl _ _⟩
end Go.Proofs.YtpdcbokcoaienaaDoor

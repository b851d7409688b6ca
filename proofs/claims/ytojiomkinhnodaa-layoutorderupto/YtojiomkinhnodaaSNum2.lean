/- The contracts of areTooMuch and numbersOf. -/
import Derived.Test.YtojiomkinhnodaaSNum
import Derived.Test.YtojiomkinhnodaaSPlace
namespace Go.Proofs.Ytojiomkinhnodaa
open Go.ChangeShapes Go.WideShapes Go.ChangeAt Go.RowKit Go.Maps
set_option linter.unusedVariables false
set_option linter.unusedSimpArgs false

def muchB (l : List Sym) (ss : List ByteArray) : Bool := decide (2000 < l.length) || (decide (64 < ss.length) || ((l.map Sym.nm).any longB || ss.any longB))

theorem areTooMuch_any (ao a2 : Option Addr) (c c2 : Nat) (l : List Sym) (ss : List ByteArray) (w : World) (hl : l.length ≤ 8796093022207) (hl2 : ss.length ≤ 8796093022208) (hr : Syms w ao l) (hs : Strs w a2 ss) :
    Calls Try.prog 60 #[.slice ao l.length c, .slice a2 ss.length c2] w fun e w' => e = .returned (.bool (muchB l ss)) ∧ Below w.heap.size w w' := by
  unfold muchB
  by_cases h1 : 2000 < l.length
  · rw [decide_eq_true h1]
    go_enter Try.func60, Try.ntmps60
    go_wp2
    go_ret
    exact ⟨rfl, Below.refl _ _⟩
  · rw [decide_eq_false h1]
    by_cases h2 : 64 < ss.length
    · rw [decide_eq_true h2]
      go_enter Try.func60, Try.ntmps60
      go_wp2
      go_ret
      exact ⟨rfl, Below.refl _ _⟩
    · rw [decide_eq_false h2]
      have N := namesOf_any ao c l w hl hr
      have HN : Hid (Calls Try.prog 75 #[.slice ao l.length c] w fun e w' => ∃ a3 c3, e = .returned (.slice a3 (l.map Sym.nm).length c3) ∧ Strs w' a3 (l.map Sym.nm) ∧ Below w.heap.size w w') := ⟨N.mono (by
        rintro e w' ⟨v, rfl, ho, hb⟩
        obtain ⟨a3, c3, rfl, _, _, hst, _⟩ := ho.any
        exact ⟨a3, c3, rfl, hst, hb⟩)⟩
      have H1 : Hid (∀ a3 c3 w', Strs w' a3 (l.map Sym.nm) → Calls Try.prog 74 #[.slice a3 (l.map Sym.nm).length c3, .func (.func 76) #[] #[]] w' fun e w'' => e = .returned (.bool ((l.map Sym.nm).any longB)) ∧ w'' = w') :=
        ⟨fun a3 c3 w' h => containsFunc_any _ longB a3 c3 _ w' (by simp; omega) h enters_isTooLong isTooLong_any⟩
      have H2 : Hid (∀ w', Strs w' a2 ss → Calls Try.prog 74 #[.slice a2 ss.length c2, .func (.func 76) #[] #[]] w' fun e w'' => e = .returned (.bool (ss.any longB)) ∧ w'' = w') :=
        ⟨fun w' h => containsFunc_any _ longB a2 c2 ss w' (by omega) h enters_isTooLong isTooLong_any⟩
      have HS : Hid _ := ⟨hs⟩
      clear N hr hs
      generalize (l.map Sym.nm).any longB = p at *
      generalize ss.any longB = q at *
      generalize l.map Sym.nm = nms at *
      have tk : True := trivial
      cases p
      all_goals
        go_enter Try.func60, Try.ntmps60
        go_wp2_with (first
          | (go_at_call 75; refine HN.out.mono ?_; rintro e w1 ⟨a3, c3, rfl, hst, hb⟩)
          | (go_at_call 74; have _t := tk; (with_reducible refine (H1.out _ _ _ hst).mono ?_); rintro e w' ⟨rfl, hw'⟩; subst w'; clear tk _t)
          | (go_at_call 74; (with_reducible refine (H2.out _ (HS.out.below hb (Nat.le_refl _))).mono ?_); rintro e w' ⟨rfl, hw'⟩; subst w'))
        go_ret
        exact ⟨rfl, hb⟩

/-- By which number an entry tells a symbol's section. -/
def numF : List ByteArray → Nat → (ByteArray → Option Int) → Option (ByteArray → Option Int)
  | [], _, m => some m
  | s :: r, k, m => if (m s).isSome || zeroB s then none else numF r (k + 1) (mput m s ((k : Int) + 1))
def num0 : ByteArray → Option Int := mput (mput (fun _ => none) ByteArray.empty 0) ⟨#[42]⟩ 65521
def numM (ss : List ByteArray) : Option (ByteArray → Option Int) := numF ss 0 num0

/-- How numbersOf ends. -/
def NEnds (m : Option (ByteArray → Option Int)) (w : World) (e : Ending) (w' : World) : Prop :=
  match m with
  | none => e = .returned (.tuple #[.map none, .bool false]) ∧ Below w.heap.size w w'
  | some f => ∃ mb n D, e = .returned (.tuple #[.map (some mb), .bool true]) ∧ w'.ownsMap Try.prog 9 RV mb n D ∧ Inv D f ∧ w.heap.size ≤ mb ∧ Below w.heap.size w w'

theorem make_mapN (w : World) : (Instr.makeMap 120 none).run Try.prog w = .ok (.map (some w.heap.size)) (w.alloc (.map #[] 0)) := by kernel_rfl

set_option maxHeartbeats 2000000 in
set_option maxRecDepth 10000 in
theorem numbersOf_any (ao : Option Addr) (c : Nat) (ss : List ByteArray) (w : World) (hl : ss.length ≤ 8796093022208) (hr : Strs w ao ss) (hsz : ∀ s ∈ ss, s.size ≤ 9223372036854775807) :
    Calls Try.prog 61 #[.slice ao ss.length c] w fun e w' => NEnds (numM ss) w e w' := by
  have hm := make_mapN
  have HR : Hid _ := ⟨hr⟩
  have HZ : Hid _ := ⟨hsz⟩
  have HO1 : Hid _ := ⟨World.ownsMap_made w Try.prog 9 RV⟩
  have HB0 : Hid (Below w.heap.size w (w.alloc (.map #[] 0))) := ⟨(Below.refl _ _).alloc (Nat.le_refl _) _⟩
  obtain ⟨M, HM⟩ : ∃ M, Hid (numM ss = M) := ⟨_, ⟨rfl⟩⟩
  rw [HM.out]
  have tk : True := trivial
  clear hr hsz
  go_enter Try.func61, Try.ntmps61
  go_wp2_with (first
    | (have _t := tk; (with_reducible refine wpList_insert_own _ rfl _ _ _ 120 rfl 9 3 law9 Try.underlying120 RV w.heap.size 0 _ ?_ HO1.out (by unfold maxLen; omega) (.string ByteArray.empty) (.int .i64 0) (kl ByteArray.empty) ?_ ?_ (key9 (by decide)) (.held (.int .i64 0)) [] rfl ?_); (· rfl); (· rfl); (· rfl); intro w1 hown1 hg1; clear tk _t)
    | ((with_reducible refine wpList_insert_own _ rfl _ _ _ 120 rfl 9 3 law9 Try.underlying120 RV w.heap.size 1 _ ?_ hown1 (by unfold maxLen; omega) (.string ⟨#[42]⟩) (.int .i64 65521) (kl ⟨#[42]⟩) ?_ ?_ (key9 (by decide)) (.held (.int .i64 65521)) [] rfl ?_); (· rfl); (· rfl); (· rfl); intro w2 hown2 hg2))
  have I2 : Inv _ num0 := (Inv.none.put ByteArray.empty 0).put ⟨#[42]⟩ 65521
  have B1 := HB0.out.grown hg1 HB0.out.size (fun k e => by cases e; exact Nat.le_refl _)
  have B2 := B1.grown hg2 B1.size (fun k e => by cases e; exact Nat.le_refl _)
  have HI : Hid _ := ⟨I2⟩
  have HB : Hid _ := ⟨B2⟩
  have HOW : Hid _ := ⟨hown2⟩
  clear I2 B1 B2 hown2 hown1 hg1 hg2
  go_loopw [13] (fun i wr => ∃ (k : Nat) (m : ByteArray → Option Int), k ≤ ss.length ∧ i = .int .i64 k ∧ Hid ((∃ n D, n ≤ k + 2 ∧ wr.ownsMap Try.prog 9 RV w.heap.size n D ∧ Inv D m) ∧ Below w.heap.size w wr) ∧ Hid (numM ss = numF (ss.drop k) k m)) (fun i _ => ss.length - (intOf i).toNat)
  case atStart => exact ⟨0, num0, by omega, rfl, ⟨⟨2, _, by omega, HOW.out, HI.out⟩, HB.out⟩, ⟨by simp [numM]⟩⟩
  case round =>
    obtain ⟨k, m, hk, rfl, HW, HF⟩ := hrel
    obtain ⟨⟨n, D, hn, hown, hinv⟩, hbel⟩ := HW.out
    by_cases hlt : k < ss.length
    · obtain ⟨b, off, rfl, hcell⟩ : ∃ b off, ao = some ⟨b, off, none⟩ ∧ ∀ i, i < ss.length → wr.cell? ⟨b, off + i, none⟩ = some (.string (ss.getD i ByteArray.empty)) := by
        rcases HR.out.below hbel (Nat.le_refl _) with h | h
        · subst h; simp at hlt
        · exact h
      have hcx := hcell k hlt
      have hget : ss.getD k ByteArray.empty = ss[k] := by simp [hlt]
      rw [hget] at hcx
      have hsz : ss[k].size ≤ maxLen := by
        have := HZ.out _ (List.getElem_mem hlt)
        unfold maxLen; omega
      have F : numF (ss.drop k) k m = if (m ss[k]).isSome || zeroB ss[k] then none else numF (ss.drop (k + 1)) (k + 1) (mput m ss[k] ((k : Int) + 1)) := by
        rw [List.drop_eq_getElem_cons hlt]; rfl
      have Z := hasZero_any ss[k] wr
      obtain ⟨hq, hu⟩ := hinv.at' ss[k]
      generalize ss[k] = s at *
      have HQ : Hid _ := ⟨hq⟩
      have HU : Hid _ := ⟨hu⟩
      have HS : Hid _ := ⟨hsz⟩
      have HOW2 : Hid _ := ⟨hown⟩
      have HIN : Hid _ := ⟨hinv⟩
      have HBE : Hid _ := ⟨hbel⟩
      clear hq hu hsz hown hinv hbel hcell hget HW HOW HI HB
      cases hms : (m s).isSome
      · rw [hms] at HQ F
        cases hz : zeroB s
        · rw [hz] at Z F
          have HFF : Hid _ := ⟨F⟩
          have HZZ : Hid _ := ⟨Z⟩
          clear F Z hms hz
          go_wp2_with (first
            | (at_lookup; refine wpList_look_held rfl _ _ 120 rfl 3 Try.underlying120 (zero3 _) w.heap.size n D rfl HOW2.out s rfl HS.out false _ HQ.out HU.out ?_)
            | (go_at_call 77; refine HZZ.out.mono ?_; rintro e w' ⟨rfl, hw'⟩; subst w')
            | (at_mapUpdate; refine wpList_mapUpdate_own _ rfl _ _ _ 120 rfl 9 3 law9 Try.underlying120 RV w.heap.size n _ rfl HOW2.out (by unfold maxLen; omega) (.string s) (.int .i64 ((k : Int) + 1)) (kl s) rfl rfl (key9 HS.out) (.held (.int .i64 ((k : Int) + 1))) [] rfl ?_; intro w3 hown3 hg3))
          go_roundw
          case rel => exact ⟨k + 1, mput m s ((k : Int) + 1), hlt, by go_num, ⟨⟨n + 1, _, by omega, hown3, HIN.out.put _ _⟩, HBE.out.grown hg3 HBE.out.size (fun j e => by cases e; exact Nat.le_refl _)⟩, ⟨by rw [HF.out, HFF.out]; rfl⟩⟩
          case measure => simp [intOf]; omega
        · rw [hz] at Z F
          have hM : M = none := by rw [← HM.out, HF.out, F]; rfl
          have HMM : Hid _ := ⟨hM⟩
          have HZZ : Hid _ := ⟨Z⟩
          clear F Z hms hz hM
          go_wp2_with (first
            | (at_lookup; refine wpList_look_held rfl _ _ 120 rfl 3 Try.underlying120 (zero3 _) w.heap.size n D rfl HOW2.out s rfl HS.out false _ HQ.out HU.out ?_)
            | (go_at_call 77; refine HZZ.out.mono ?_; rintro e w' ⟨rfl, hw'⟩; subst w'))
          go_ret2
          rw [HMM.out]
          exact ⟨rfl, HBE.out⟩
      · rw [hms] at HQ F
        have hM : M = none := by rw [← HM.out, HF.out, F]; rfl
        have HMM : Hid _ := ⟨hM⟩
        clear F Z hms hM
        go_wp2_with (at_lookup; refine wpList_look_held rfl _ _ 120 rfl 3 Try.underlying120 (zero3 _) w.heap.size n D rfl HOW2.out s rfl HS.out true _ HQ.out HU.out ?_)
        go_ret2
        rw [HMM.out]
        exact ⟨rfl, HBE.out⟩
    · obtain rfl : k = ss.length := by omega
      have hM : M = some m := by rw [← HM.out, HF.out, List.drop_of_length_le (Nat.le_refl _)]; rfl
      have HMM : Hid _ := ⟨hM⟩
      have HOW2 : Hid _ := ⟨hown⟩
      have HIN : Hid _ := ⟨hinv⟩
      have HBE : Hid _ := ⟨hbel⟩
      clear hM hown hinv hbel HW HOW HI HB
      go_wp2
      go_ret2
      rw [HMM.out]
      exact ⟨_, n, D, rfl, HOW2.out, HIN.out, Nat.le_refl _, HBE.out⟩
end Go.Proofs.Ytojiomkinhnodaa

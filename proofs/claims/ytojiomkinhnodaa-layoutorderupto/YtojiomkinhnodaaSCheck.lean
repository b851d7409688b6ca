/- The contracts of mayBe and Check. -/
import Derived.Test.YtojiomkinhnodaaSUnl
namespace Go.Proofs.Ytojiomkinhnodaa
open Go.ChangeShapes Go.WideShapes Go.ChangeAt Go.RowKit Go.Maps
set_option linter.unusedVariables false
set_option linter.unusedSimpArgs false

def mayB (l : List Sym) (m : ByteArray → Option Int) : Bool := l.all (fun s => (m s.sc).isSome && rightB s) && unlB l
/-- The sizes of a symbol's texts. -/
def SZ (l : List Sym) : Prop := ∀ s ∈ l, s.nm.size ≤ 9223372036854775807 ∧ s.sc.size ≤ 9223372036854775807

set_option maxHeartbeats 2000000 in
set_option maxRecDepth 10000 in
theorem mayBe_any (ao : Option Addr) (c : Nat) (l : List Sym) (m : ByteArray → Option Int) (mb n : Nat) (D : DataW Value) (w : World) (hl : l.length ≤ 8796093022207) (hr : Syms w ao l) (hsz : SZ l)
    (hown : w.ownsMap Try.prog 9 RV mb n D) (hinv : Inv D m) :
    Calls Try.prog 62 #[.slice ao l.length c, .map (some mb)] w fun e w' => e = .returned (.bool (mayB l m)) ∧ Below w.heap.size w w' := by
  have HR : Hid _ := ⟨hr⟩
  have HZ : Hid _ := ⟨hsz⟩
  have HOW : Hid _ := ⟨hown⟩
  have HIN : Hid _ := ⟨hinv⟩
  have HU : Hid (∀ w', Syms w' ao l → Calls Try.prog 79 #[.slice ao l.length c] w' fun e w'' => e = .returned (.bool (unlB l)) ∧ Below w'.heap.size w' w'') := ⟨fun w' h => areUnlike_any ao c l w' hl h (fun s hs => (hsz s hs).1)⟩
  have HMB : Hid (mayB l m = (l.all (fun s => (m s.sc).isSome && rightB s) && unlB l)) := ⟨rfl⟩
  generalize mayB l m = M at *
  generalize unlB l = U at *
  clear hr hsz hown hinv
  go_enter Try.func62, Try.ntmps62
  go_wp2
  go_loopw [11] (fun i wr => ∃ k : Nat, k ≤ l.length ∧ i = .int .i64 k ∧ Hid ((l.take k).all (fun s => (m s.sc).isSome && rightB s) = true) ∧ Hid (Below w.heap.size w wr)) (fun i _ => l.length - (intOf i).toNat)
  case atStart => exact ⟨0, by omega, rfl, ⟨by simp⟩, ⟨Below.refl _ _⟩⟩
  case round =>
    obtain ⟨k, hk, rfl, HA, HB⟩ := hrel
    by_cases hlt : k < l.length
    · obtain ⟨b, off, rfl, hcell⟩ : ∃ b off, ao = some ⟨b, off, none⟩ ∧ ∀ i, i < l.length → SymAt wr b (off + i * 6) (l.getD i Sym.none) := by
        rcases HR.out.below HB.out (Nat.le_refl _) with h | h
        · subst h; simp at hlt
        · exact h
      obtain ⟨c0, c1, c2, c3, c4, c5⟩ := hcell k hlt
      have hget : l.getD k Sym.none = l[k] := by simp [hlt]
      rw [hget] at c0 c1 c2 c3 c4 c5
      have F : (l.take (k + 1)).all (fun s => (m s.sc).isSome && rightB s) = ((m l[k].sc).isSome && rightB l[k]) := by
        rw [List.take_succ_eq_append_getElem hlt, List.all_append, HA.out]; simp
      have HNO : Hid (((m l[k].sc).isSome && rightB l[k]) = false → M = false) := ⟨fun h => by
        rw [HMB.out]
        have : l.all (fun s => (m s.sc).isSome && rightB s) = false := by
          rw [List.all_eq_false]; exact ⟨l[k], List.getElem_mem hlt, by rw [h]; simp⟩
        rw [this]; rfl⟩
      have hsz : l[k].sc.size ≤ maxLen := by
        have := (HZ.out _ (List.getElem_mem hlt)).2
        unfold maxLen; omega
      have hrt := isRight_any l[k]
      obtain ⟨hq, hu⟩ := HIN.out.at' l[k].sc
      generalize l[k] = s at *
      generalize rightB s = rb at *
      generalize m s.sc = ms at *
      obtain ⟨nm, sc, v, z, bd, ty⟩ := s
      dsimp only [Sym.val] at *
      have hb2 := HB.out.alloc HB.out.size (.cells #[.string nm, .string sc, .int .i64 v, .int .i64 z, .int .i64 bd, .int .i64 ty] 80)
      have ho2 : (wr.alloc (.cells #[.string nm, .string sc, .int .i64 v, .int .i64 z, .int .i64 bd, .int .i64 ty] 80)).ownsMap Try.prog 9 RV mb n D := by
        obtain ⟨es, clock, hbm, r⟩ := HOW.out
        have hlt : mb < w.heap.size := (Array.getElem?_eq_some_iff.1 hbm).1
        exact ⟨es, clock, by rw [hb2.block mb hlt]; exact hbm, r⟩
      have HO2 : Hid _ := ⟨ho2⟩
      have HB2 : Hid _ := ⟨hb2⟩
      have HQ : Hid _ := ⟨hq⟩
      have HUU : Hid _ := ⟨hu⟩
      have HS : Hid _ := ⟨hsz⟩
      have HFF : Hid _ := ⟨F⟩
      have HRT : Hid _ := ⟨hrt⟩
      clear hb2 ho2 hq hu hsz F hcell hget hrt
      cases hms : ms.isSome
      · rw [hms] at HQ HNO
        have HMM : Hid (M = false) := ⟨HNO.out rfl⟩
        clear hms
        go_wp2_with (at_lookup; refine wpList_look_held rfl _ _ 120 rfl 3 Try.underlying120 (zero3 _) mb n D rfl HO2.out sc rfl HS.out false _ HQ.out HUU.out ?_)
        go_ret
        exact ⟨ret_bool HMM.out.symm, HB2.out⟩
      · rw [hms] at HQ HNO HFF
        clear hms
        cases rb
        · have HMM : Hid (M = false) := ⟨HNO.out rfl⟩
          go_wp2_with (first
            | (at_lookup; refine wpList_look_held rfl _ _ 120 rfl 3 Try.underlying120 (zero3 _) mb n D rfl HO2.out sc rfl HS.out true _ HQ.out HUU.out ?_)
            | (go_at_call 78; refine (HRT.out _).mono ?_; rintro e w3 ⟨rfl, hb3⟩))
          go_ret
          exact ⟨ret_bool HMM.out.symm, HB2.out.trans (hb3.mono HB2.out.size)⟩
        · go_wp2_with (first
            | (at_lookup; refine wpList_look_held rfl _ _ 120 rfl 3 Try.underlying120 (zero3 _) mb n D rfl HO2.out sc rfl HS.out true _ HQ.out HUU.out ?_)
            | (go_at_call 78; refine (HRT.out _).mono ?_; rintro e w3 ⟨rfl, hb3⟩))
          go_roundw
          case rel => exact ⟨k + 1, hlt, by go_num, ⟨by rw [HFF.out]; rfl⟩, ⟨HB2.out.trans (hb3.mono HB2.out.size)⟩⟩
          case measure => simp [intOf]; omega
    · obtain rfl : k = l.length := by omega
      have hM : M = U := by
        have := HA.out
        rw [List.take_of_length_le (Nat.le_refl _)] at this
        rw [HMB.out, this]; rfl
      have HMM : Hid _ := ⟨hM⟩
      have HU2 : Hid _ := ⟨HU.out wr (HR.out.below HB.out (Nat.le_refl _))⟩
      clear hM
      go_wp2_with (go_at_call 79; refine HU2.out.mono ?_; rintro e w3 ⟨rfl, hb3⟩)
      go_ret
      exact ⟨ret_bool HMM.out.symm, HB.out.trans (hb3.mono HB.out.size)⟩

/-- What Check answers. -/
def checkE (l : List Sym) (ss : List ByteArray) : Int :=
  if muchB l ss then 6 else match numM ss with | none => 80 | some m => if mayB l m then 0 else 80

theorem check_any (ao a2 : Option Addr) (c c2 : Nat) (l : List Sym) (ss : List ByteArray) (w : World) (hl : l.length ≤ 8796093022207) (hl2 : ss.length ≤ 8796093022208) (hr : Syms w ao l) (hs : Strs w a2 ss) (hsz : SZ l) (hz2 : ∀ s ∈ ss, s.size ≤ 9223372036854775807) :
    Calls Try.prog 48 #[.slice ao l.length c, .slice a2 ss.length c2] w fun e w' => e = .returned (.int .i64 (checkE l ss)) ∧ Below w.heap.size w w' := by
  have T := areTooMuch_any ao a2 c c2 l ss w hl hl2 hr hs
  have HN : Hid (∀ w', Below w.heap.size w w' → Calls Try.prog 61 #[.slice a2 ss.length c2] w' fun e w'' => NEnds (numM ss) w' e w'') := ⟨fun w' h => numbersOf_any a2 c2 ss w' hl2 (hs.below h (Nat.le_refl _)) hz2⟩
  have HR : Hid _ := ⟨hr⟩
  have HZ : Hid _ := ⟨hsz⟩
  unfold checkE
  cases hm : muchB l ss
  · rw [hm] at T
    have HT : Hid _ := ⟨T⟩
    simp only [Bool.false_eq_true, if_false]
    cases hn : numM ss with
    | none =>
      rw [hn] at HN
      clear T hm hn hr hs hsz
      simp only []
      go_enter Try.func48, Try.ntmps48
      go_wp2_with (first
        | (go_at_call 60; refine HT.out.mono ?_; rintro e w1 ⟨rfl, hb1⟩)
        | (go_at_call 61; refine (HN.out _ hb1).mono ?_; rintro e w2 ⟨rfl, hb2⟩))
      go_ret
      exact ⟨rfl, hb1.trans (hb2.mono hb1.size)⟩
    | some m =>
      rw [hn] at HN
      have HM : Hid (∀ w' mb n D, Below w.heap.size w w' → w'.ownsMap Try.prog 9 RV mb n D → Inv D m → Calls Try.prog 62 #[.slice ao l.length c, .map (some mb)] w' fun e w'' => e = .returned (.bool (mayB l m)) ∧ Below w'.heap.size w' w'') :=
        ⟨fun w' mb n D h h1 h2 => mayBe_any ao c l m mb n D w' hl (HR.out.below h (Nat.le_refl _)) HZ.out h1 h2⟩
      clear T hm hn hr hs hsz
      simp only []
      generalize mayB l m = q at *
      cases q
      all_goals
        simp only [Bool.false_eq_true, if_false, if_true]
        go_enter Try.func48, Try.ntmps48
        go_wp2_with (first
          | (go_at_call 60; refine HT.out.mono ?_; rintro e w1 ⟨rfl, hb1⟩)
          | (go_at_call 61; refine (HN.out _ hb1).mono ?_; rintro e w2 ⟨mb, n, D, rfl, ho2, hi2, _, hb2⟩; have B2 := hb1.trans (hb2.mono hb1.size))
          | (go_at_call 62; refine (HM.out _ _ _ _ B2 ho2 hi2).mono ?_; rintro e w3 ⟨rfl, hb3⟩))
        go_ret
        exact ⟨rfl, B2.trans (hb3.mono B2.size)⟩
  · rw [hm] at T
    have HT : Hid _ := ⟨T⟩
    simp only [if_true]
    clear T hm hr hs hsz
    go_enter Try.func48, Try.ntmps48
    go_wp2_with (go_at_call 60; refine HT.out.mono ?_; rintro e w1 ⟨rfl, hb1⟩)
    go_ret
    exact ⟨rfl, hb1⟩
end Go.Proofs.Ytojiomkinhnodaa

/- The contract of the reader's symbols. -/
import Derived.Test.YtpdcbokcoaienaaDoorSRd3
import Derived.Test.YtpdcbokcoaienaaDoorSLoc
namespace Go.Proofs.YtpdcbokcoaienaaDoor
open Go.ChangeShapes Go.WideShapes Go.ChangeAt Go.RowKit
set_option linter.unusedVariables false
set_option linter.unusedSimpArgs false

/-- The symbols from place a on, with so much fuel. -/
noncomputable def prs (I : In) : Nat → Nat → Option (List Sym)
  | 0, _ => some []
  | n + 1, a => if a < I.n1 then match symF I a with | none => none | some s => (prs I n (a + 24)).map (s :: ·) else some []
noncomputable def prsM (I : In) : Option (List Sym) := prs I (I.n1 + 1) 24

def PEnds (m : Option (List Sym)) (w0 : World) (rb : Nat) (w : World) (e : Ending) (w' : World) : Prop :=
  match m with
  | some l => ∃ v, e = .returned v ∧ OwnY w' w.heap.size v l ∧ Turn (fun k => k = rb) w w'
  | none => e = bad80 ∧ Turn (fun k => k = rb) w w'

/-- So far: l has been read, the rest is to be read from a on. -/
def Far (I : In) (M : Option (List Sym)) (l : List Sym) (a : Nat) : Prop := ∃ n, I.n1 < a + n ∧ M = (prs I n a).map (l ++ ·)

theorem Far.stop {I : In} {M : Option (List Sym)} {l : List Sym} {a : Nat} (h : Far I M l a) (ha : ¬ a < I.n1) : M = some l := by
  obtain ⟨n, hn, rfl⟩ := h
  cases n with
  | zero => simp [prs]
  | succ n => unfold prs; rw [if_neg ha]; simp
theorem Far.none {I : In} {M : Option (List Sym)} {l : List Sym} {a : Nat} (h : Far I M l a) (ha : a < I.n1) (hs : symF I a = Option.none) : M = Option.none := by
  obtain ⟨n, hn, rfl⟩ := h
  cases n with
  | zero => omega
  | succ n => unfold prs; rw [if_pos ha, hs]; rfl
theorem Far.next {I : In} {M : Option (List Sym)} {l : List Sym} {a : Nat} (h : Far I M l a) (ha : a < I.n1) {s : Sym} (hs : symF I a = some s) : Far I M (l ++ [s]) (a + 24) := by
  obtain ⟨n, hn, rfl⟩ := h
  cases n with
  | zero => omega
  | succ n =>
    refine ⟨n, by omega, ?_⟩
    show (if a < I.n1 then match symF I a with | Option.none => Option.none | some s => (prs I n (a + 24)).map (s :: ·) else some []).map (l ++ ·) = _
    rw [if_pos ha, hs]
    cases prs I n (a + 24) <;> simp

theorem drewN_one (w : World) : w.drewN 1 = w.drew := rfl

set_option maxHeartbeats 4000000 in
set_option maxRecDepth 10000 in
theorem symbols_read {w0 w : World} {rb : Nat} {I : In} {a0 : Nat} (h : RD w0 w rb I a0) (hi : InOk w0 I) (hf : Fz w0) :
    Calls Tryd.prog 32 #[.pointer (some ⟨rb, 0, none⟩)] w fun e w' => PEnds (prsM I) w0 rb w e w' := by
  have HR : Hid _ := ⟨h⟩
  have HI : Hid _ := ⟨hi⟩
  have HF : Hid _ := ⟨hf⟩
  have c3 := h.c3
  have z3 := h.fz 3
  have hrb := h.lt
  have hlo := h.lo
  have hn1 := hi.t1
  have HM0 : Hid (Far I (prsM I) [] 24) := ⟨I.n1 + 1, by omega, by unfold prsM; cases prs I (I.n1 + 1) 24 <;> simp⟩
  generalize prsM I = M at *
  clear h hi hf
  go_enter Tryd.func32, Tryd.ntmps32
  go_wp2
  clear c3 z3
  have HR0 : Hid _ := ⟨HR.out.set 24 24 rfl⟩
  have HT0 : Hid (Turn (fun k => k = rb) w (w.setCell ⟨rb, 3, none⟩ (.int .i64 24))) := ⟨Turn.setCell (S := fun k => k = rb) (Turn.refl _ _) ⟨rb, 3, none⟩ rfl _⟩
  clear HR
  go_loopw [3] (fun v wr => ∃ (a : Nat) (l : List Sym), Hid (a = 24 + l.length * 24) ∧ a ≤ 1048600 ∧ Hid (RD w0 wr rb I a ∧ OwnY wr w.heap.size v l ∧ Turn (fun k => k = rb) w wr ∧ Far I M l a)) (fun _ wr => 2097152 - (intOf ((wr.cell? ⟨rb, 3, none⟩).getD (.int .i64 0))).toNat)
  case atStart => exact ⟨24, [], ⟨rfl⟩, by omega, ⟨HR0.out, OwnY.nil _ _, HT0.out, HM0.out⟩⟩
  case round =>
    obtain ⟨a, l, hal, hat, HW⟩ := hrel
    obtain ⟨R1, O1, T1, F1⟩ := HW.out
    have c3 := R1.c3
    have c0 := R1.c0
    have hwr : w.heap.size ≤ wr.heap.size := T1.size
    have hll : l.length + 1 ≤ 2199023255552 := by have := hal.out; omega
    by_cases hlt : a < I.n1
    · have hlt' : (a : Int) < (I.n1 : Int) := by omega
      have hme : (intOf ((wr.cell? ⟨rb, 3, none⟩).getD (.int .i64 0))).toNat = a := by rw [c3]; simp [intOf]
      have SY := fun n => symbol_any (R1.drewN n) HI.out HF.out (by omega)
      cases hs : symF I a with
      | none =>
        simp only [hs] at SY
        have hM : M = none := F1.none hlt hs
        subst hM
        have HSY : Hid _ := ⟨SY⟩
        have HT1 : Hid _ := ⟨T1⟩
        clear SY R1 O1 T1 F1 HW
        go_wp2
        go_quiet (fail)
        go_wp2_with (go_at_call 46; (with_reducible refine (HSY.out _).mono ?_); rintro e u hu; obtain ⟨rfl, hb⟩ := hu)
        exact ⟨rfl, rfl, (HT1.out.trans (Turn.of_below (below_drewN (Below.refl _ _) _) _)).trans hb⟩
      | some s =>
        simp only [hs] at SY
        have F2 := F1.next hlt hs
        have HSY : Hid _ := ⟨SY⟩
        have HO1 : Hid _ := ⟨O1⟩
        have HT1 : Hid _ := ⟨T1⟩
        have HF2 : Hid _ := ⟨F2⟩
        have HRR : Hid _ := ⟨R1⟩
        clear SY R1 O1 T1 F1 HW F2
        obtain ⟨nm, sc, v, z, b, t⟩ := s
        go_wp2
        go_quiet (fail)
        go_wp2_with (first
          | (go_at_call 46; (with_reducible refine (HSY.out _).mono ?_); rintro e u hu; obtain ⟨rfl, R2, T2⟩ := hu; have O2 : OwnY u w.heap.size u3 l := T2.row (show OwnY (wr.drewN _) w.heap.size u3 l from HO1.out) (fun k hk e => by have := (HO1.out.lt k hk).1; omega); have hbu : w.heap.size ≤ u.heap.size := Nat.le_trans hwr T2.size)
          | (at_builtin; refine append_sym _ rfl _ _ rfl w.heap.size _ _ rfl O2 ⟨nm, sc, v, z, b, t⟩ _ rfl rfl hll hbu ?_; intro v1 w1 hr1 hs1))
        have ne : ∀ k, u3.ownBlock = some k → w.heap.size ≤ k := fun k hk => (HO1.out.lt k hk).1
        have R3 := R2.turn hs1.turn (fun e => by have := ne _ e; omega) (fun k e => by have := ne _ e; omega)
        have T3 := ((HT1.out.trans (Turn.of_below (below_drewN (Below.refl _ _) _) _)).trans T2).trans' hs1.turn (fun i hi e => by have := ne _ e; omega)
        have hme2 : (intOf ((w1.cell? ⟨rb, 3, none⟩).getD (.int .i64 0))).toNat = a + 24 := by rw [R3.c3]; simp [intOf]; omega
        go_roundw
        case rel => exact ⟨a + 24, l ++ [⟨nm, sc, v, z, b, t⟩], ⟨by have := hal.out; simp; omega⟩, by omega, ⟨R3, hr1, T3, HF2.out⟩⟩
        case measure => rw [hme, hme2]; omega
    · have hM : M = some l := F1.stop hlt
      subst hM
      have hlt' : ¬ (a : Int) < (I.n1 : Int) := by omega
      have HO1 : Hid _ := ⟨O1⟩
      have HT1 : Hid _ := ⟨T1⟩
      clear R1 O1 T1 F1 HW
      go_wp2
      go_quiet (fail)
      go_wp2
      go_ret
      exact ⟨_, rfl, HO1.out, HT1.out.trans (Turn.of_below (below_drewN (Below.refl _ _) _) _)⟩
end Go.Proofs.YtpdcbokcoaienaaDoor

/- The document's shift and jumps. -/
import Derived.Test.YtdgejingoamfeaaDoorRefOps
namespace Go.Proofs.YtdgejingoamfeaaDoor
open Go.ChangeShapes Go.WideShapes Go.ChangeAt Go.RowKit
set_option linter.unusedVariables false

def shiftRB (i : I) : Bool := rmB i.to && (((immB i.fr && decide (0 ≤ i.fr.n)) && decide (i.fr.n ≤ (if i.sz = 8 then 63 else 31))) || (regB i.fr && i.fr.r == 1))

set_option maxHeartbeats 4000000 in
theorem refShift_any (i : I) (w : World) (h : NB i) :
    Calls Tryd.prog 66 #[i.val] w fun e w' => e = .returned (.bool (shiftRB i)) ∧ Below w.heap.size w w' := by
  have CI : Hid (∀ v, Calls Tryd.prog 63 #[.agg #[.int .i64 i.fr.k, .int .i64 i.fr.r, .int .i64 i.fr.b, .int .i64 i.fr.x, .int .i64 i.fr.s, .bool i.fr.rip, .bool i.fr.fs, .int .i64 i.fr.n, .string i.fr.nm, .int .i64 i.fr.m]] v fun e w' => e = .returned (.bool (immB i.fr)) ∧ Below v.heap.size v w') := ⟨fun v => refImm_any i.fr v⟩
  have CT : Hid (∀ v, Calls Tryd.prog 65 #[.agg #[.int .i64 i.to.k, .int .i64 i.to.r, .int .i64 i.to.b, .int .i64 i.to.x, .int .i64 i.to.s, .bool i.to.rip, .bool i.to.fs, .int .i64 i.to.n, .string i.to.nm, .int .i64 i.to.m]] v fun e w' => e = .returned (.bool (rmB i.to)) ∧ Below v.heap.size v w') := ⟨fun v => refRm_any i.to v h.t⟩
  have CF : Hid (∀ v, Calls Tryd.prog 62 #[.agg #[.int .i64 i.fr.k, .int .i64 i.fr.r, .int .i64 i.fr.b, .int .i64 i.fr.x, .int .i64 i.fr.s, .bool i.fr.rip, .bool i.fr.fs, .int .i64 i.fr.n, .string i.fr.nm, .int .i64 i.fr.m]] v fun e w' => e = .returned (.bool (regB i.fr)) ∧ Below v.heap.size v w') := ⟨fun v => refReg_any i.fr v⟩
  obtain ⟨q, hq⟩ : ∃ x, (i.sz == 8) = x := ⟨_, rfl⟩
  have hm : (if i.sz = 8 then (63 : Int) else 31) = if q then 63 else 31 := by rw [← hq]; by_cases e : i.sz = 8 <;> simp [e]
  obtain ⟨z, hz⟩ : ∃ z, shiftRB i = z := ⟨_, rfl⟩
  have HR : Hid (z = (rmB i.to && (((immB i.fr && decide (0 ≤ i.fr.n)) && decide (i.fr.n ≤ (if q then 63 else 31))) || (regB i.fr && i.fr.r == 1)))) := ⟨by rw [← hz]; unfold shiftRB; rw [hm]⟩
  rw [hz]
  clear hz hm
  generalize immB i.fr = a at *
  generalize rmB i.to = b at *
  generalize regB i.fr = c at *
  unfold I.val
  clear h
  have M1 : Hid (¬ 0 ≤ i.fr.n → z = (b && (c && i.fr.r == 1))) := ⟨fun e => by rw [HR.out, decide_eq_false e]; simp⟩
  have M2 : Hid (0 ≤ i.fr.n → ¬ i.fr.n ≤ (if q then 63 else 31) → z = (b && (c && i.fr.r == 1))) := ⟨fun _ e => by rw [HR.out, decide_eq_false e]; simp⟩
  have M3 : Hid (a = false → z = (b && (c && i.fr.r == 1))) := ⟨fun e => by rw [HR.out, e]; simp⟩
  have M4 : Hid (a = true → 0 ≤ i.fr.n → i.fr.n ≤ (if q then 63 else 31) → z = b) := ⟨fun e e1 e2 => by rw [HR.out, e, decide_eq_true e1, decide_eq_true e2]; simp⟩
  clear HR
  rcases q with _ | _
  · rcases a with _ | _
    · have HZ : Hid (z = (b && (c && i.fr.r == 1))) := ⟨M3.out rfl⟩
      clear M1 M2 M3 M4
      rcases b with _ | _ <;> rcases c with _ | _
      all_goals
        have AX : True := trivial
        go_enter Tryd.func66, Tryd.ntmps66
        go_wp2_with (first
          | (go_at_call 63; refine (CI.out _).mono ?_; rintro e wx ⟨rfl, hbx⟩; (first | (have AY : Hid (IA wx w.heap.size i ∧ Below w.heap.size w wx) := ⟨AX.out.1.bel hbx, bel_trans AX.out.2 hbx⟩) | (have AY : Hid (IA wx w.heap.size i ∧ Below w.heap.size w wx) := ⟨(IA.new w i 25).bel hbx, bel_trans (bel_alloc (Below.refl _ _) _) hbx⟩)); clear hbx; (try clear p0 p1 p2 p3 p4 p5 p6 p7 p8 p9 p10 p11 p12 p13 p14 p15 p16 p17 p18 p19 p20 p21 p22 p23); (try clear AX); have AX := AY; clear AY; obtain ⟨p0, p1, p2, p3, p4, p5, p6, p7, p8, p9, p10, p11, p12, p13, p14, p15, p16, p17, p18, p19, p20, p21, p22, p23⟩ := AX.out.1)
          | (go_at_call 65; refine (CT.out _).mono ?_; rintro e wx ⟨rfl, hbx⟩; (first | (have AY : Hid (IA wx w.heap.size i ∧ Below w.heap.size w wx) := ⟨AX.out.1.bel hbx, bel_trans AX.out.2 hbx⟩) | (have AY : Hid (IA wx w.heap.size i ∧ Below w.heap.size w wx) := ⟨(IA.new w i 25).bel hbx, bel_trans (bel_alloc (Below.refl _ _) _) hbx⟩)); clear hbx; (try clear p0 p1 p2 p3 p4 p5 p6 p7 p8 p9 p10 p11 p12 p13 p14 p15 p16 p17 p18 p19 p20 p21 p22 p23); (try clear AX); have AX := AY; clear AY; obtain ⟨p0, p1, p2, p3, p4, p5, p6, p7, p8, p9, p10, p11, p12, p13, p14, p15, p16, p17, p18, p19, p20, p21, p22, p23⟩ := AX.out.1)
          | (go_at_call 62; refine (CF.out _).mono ?_; rintro e wx ⟨rfl, hbx⟩; (first | (have AY : Hid (IA wx w.heap.size i ∧ Below w.heap.size w wx) := ⟨AX.out.1.bel hbx, bel_trans AX.out.2 hbx⟩) | (have AY : Hid (IA wx w.heap.size i ∧ Below w.heap.size w wx) := ⟨(IA.new w i 25).bel hbx, bel_trans (bel_alloc (Below.refl _ _) _) hbx⟩)); clear hbx; (try clear p0 p1 p2 p3 p4 p5 p6 p7 p8 p9 p10 p11 p12 p13 p14 p15 p16 p17 p18 p19 p20 p21 p22 p23); (try clear AX); have AX := AY; clear AY; obtain ⟨p0, p1, p2, p3, p4, p5, p6, p7, p8, p9, p10, p11, p12, p13, p14, p15, p16, p17, p18, p19, p20, p21, p22, p23⟩ := AX.out.1))
        go_ret
        exact ⟨ret_bool (by rw [HZ.out]; rfl), AX.out.2⟩
    · by_cases e1 : 0 ≤ i.fr.n
      · by_cases e2 : i.fr.n ≤ 31
        · have HZ : Hid (z = b) := ⟨M4.out rfl e1 e2⟩
          clear M1 M2 M3 M4
          rcases b with _ | _
          all_goals
            have AX : True := trivial
            go_enter Tryd.func66, Tryd.ntmps66
            go_wp2_with (first
              | (go_at_call 63; refine (CI.out _).mono ?_; rintro e wx ⟨rfl, hbx⟩; (first | (have AY : Hid (IA wx w.heap.size i ∧ Below w.heap.size w wx) := ⟨AX.out.1.bel hbx, bel_trans AX.out.2 hbx⟩) | (have AY : Hid (IA wx w.heap.size i ∧ Below w.heap.size w wx) := ⟨(IA.new w i 25).bel hbx, bel_trans (bel_alloc (Below.refl _ _) _) hbx⟩)); clear hbx; (try clear p0 p1 p2 p3 p4 p5 p6 p7 p8 p9 p10 p11 p12 p13 p14 p15 p16 p17 p18 p19 p20 p21 p22 p23); (try clear AX); have AX := AY; clear AY; obtain ⟨p0, p1, p2, p3, p4, p5, p6, p7, p8, p9, p10, p11, p12, p13, p14, p15, p16, p17, p18, p19, p20, p21, p22, p23⟩ := AX.out.1)
              | (go_at_call 65; refine (CT.out _).mono ?_; rintro e wx ⟨rfl, hbx⟩; (first | (have AY : Hid (IA wx w.heap.size i ∧ Below w.heap.size w wx) := ⟨AX.out.1.bel hbx, bel_trans AX.out.2 hbx⟩) | (have AY : Hid (IA wx w.heap.size i ∧ Below w.heap.size w wx) := ⟨(IA.new w i 25).bel hbx, bel_trans (bel_alloc (Below.refl _ _) _) hbx⟩)); clear hbx; (try clear p0 p1 p2 p3 p4 p5 p6 p7 p8 p9 p10 p11 p12 p13 p14 p15 p16 p17 p18 p19 p20 p21 p22 p23); (try clear AX); have AX := AY; clear AY; obtain ⟨p0, p1, p2, p3, p4, p5, p6, p7, p8, p9, p10, p11, p12, p13, p14, p15, p16, p17, p18, p19, p20, p21, p22, p23⟩ := AX.out.1)
              | (go_at_call 62; refine (CF.out _).mono ?_; rintro e wx ⟨rfl, hbx⟩; (first | (have AY : Hid (IA wx w.heap.size i ∧ Below w.heap.size w wx) := ⟨AX.out.1.bel hbx, bel_trans AX.out.2 hbx⟩) | (have AY : Hid (IA wx w.heap.size i ∧ Below w.heap.size w wx) := ⟨(IA.new w i 25).bel hbx, bel_trans (bel_alloc (Below.refl _ _) _) hbx⟩)); clear hbx; (try clear p0 p1 p2 p3 p4 p5 p6 p7 p8 p9 p10 p11 p12 p13 p14 p15 p16 p17 p18 p19 p20 p21 p22 p23); (try clear AX); have AX := AY; clear AY; obtain ⟨p0, p1, p2, p3, p4, p5, p6, p7, p8, p9, p10, p11, p12, p13, p14, p15, p16, p17, p18, p19, p20, p21, p22, p23⟩ := AX.out.1))
            go_ret
            exact ⟨ret_bool (by rw [HZ.out]), AX.out.2⟩
        · have HZ : Hid (z = (b && (c && i.fr.r == 1))) := ⟨M2.out e1 e2⟩
          have e3 : decide (i.fr.n ≤ 31) = false := decide_eq_false e2
          clear M1 M2 M3 M4
          rcases b with _ | _ <;> rcases c with _ | _
          all_goals
            have AX : True := trivial
            go_enter Tryd.func66, Tryd.ntmps66
            go_wp2_with (first
              | (go_at_call 63; refine (CI.out _).mono ?_; rintro e wx ⟨rfl, hbx⟩; (first | (have AY : Hid (IA wx w.heap.size i ∧ Below w.heap.size w wx) := ⟨AX.out.1.bel hbx, bel_trans AX.out.2 hbx⟩) | (have AY : Hid (IA wx w.heap.size i ∧ Below w.heap.size w wx) := ⟨(IA.new w i 25).bel hbx, bel_trans (bel_alloc (Below.refl _ _) _) hbx⟩)); clear hbx; (try clear p0 p1 p2 p3 p4 p5 p6 p7 p8 p9 p10 p11 p12 p13 p14 p15 p16 p17 p18 p19 p20 p21 p22 p23); (try clear AX); have AX := AY; clear AY; obtain ⟨p0, p1, p2, p3, p4, p5, p6, p7, p8, p9, p10, p11, p12, p13, p14, p15, p16, p17, p18, p19, p20, p21, p22, p23⟩ := AX.out.1)
              | (go_at_call 65; refine (CT.out _).mono ?_; rintro e wx ⟨rfl, hbx⟩; (first | (have AY : Hid (IA wx w.heap.size i ∧ Below w.heap.size w wx) := ⟨AX.out.1.bel hbx, bel_trans AX.out.2 hbx⟩) | (have AY : Hid (IA wx w.heap.size i ∧ Below w.heap.size w wx) := ⟨(IA.new w i 25).bel hbx, bel_trans (bel_alloc (Below.refl _ _) _) hbx⟩)); clear hbx; (try clear p0 p1 p2 p3 p4 p5 p6 p7 p8 p9 p10 p11 p12 p13 p14 p15 p16 p17 p18 p19 p20 p21 p22 p23); (try clear AX); have AX := AY; clear AY; obtain ⟨p0, p1, p2, p3, p4, p5, p6, p7, p8, p9, p10, p11, p12, p13, p14, p15, p16, p17, p18, p19, p20, p21, p22, p23⟩ := AX.out.1)
              | (go_at_call 62; refine (CF.out _).mono ?_; rintro e wx ⟨rfl, hbx⟩; (first | (have AY : Hid (IA wx w.heap.size i ∧ Below w.heap.size w wx) := ⟨AX.out.1.bel hbx, bel_trans AX.out.2 hbx⟩) | (have AY : Hid (IA wx w.heap.size i ∧ Below w.heap.size w wx) := ⟨(IA.new w i 25).bel hbx, bel_trans (bel_alloc (Below.refl _ _) _) hbx⟩)); clear hbx; (try clear p0 p1 p2 p3 p4 p5 p6 p7 p8 p9 p10 p11 p12 p13 p14 p15 p16 p17 p18 p19 p20 p21 p22 p23); (try clear AX); have AX := AY; clear AY; obtain ⟨p0, p1, p2, p3, p4, p5, p6, p7, p8, p9, p10, p11, p12, p13, p14, p15, p16, p17, p18, p19, p20, p21, p22, p23⟩ := AX.out.1))
            go_ret
            exact ⟨ret_bool (by rw [HZ.out]; rfl), AX.out.2⟩
      · have HZ : Hid (z = (b && (c && i.fr.r == 1))) := ⟨M1.out e1⟩
        clear M1 M2 M3 M4
        rcases b with _ | _ <;> rcases c with _ | _
        all_goals
          have AX : True := trivial
          go_enter Tryd.func66, Tryd.ntmps66
          go_wp2_with (first
            | (go_at_call 63; refine (CI.out _).mono ?_; rintro e wx ⟨rfl, hbx⟩; (first | (have AY : Hid (IA wx w.heap.size i ∧ Below w.heap.size w wx) := ⟨AX.out.1.bel hbx, bel_trans AX.out.2 hbx⟩) | (have AY : Hid (IA wx w.heap.size i ∧ Below w.heap.size w wx) := ⟨(IA.new w i 25).bel hbx, bel_trans (bel_alloc (Below.refl _ _) _) hbx⟩)); clear hbx; (try clear p0 p1 p2 p3 p4 p5 p6 p7 p8 p9 p10 p11 p12 p13 p14 p15 p16 p17 p18 p19 p20 p21 p22 p23); (try clear AX); have AX := AY; clear AY; obtain ⟨p0, p1, p2, p3, p4, p5, p6, p7, p8, p9, p10, p11, p12, p13, p14, p15, p16, p17, p18, p19, p20, p21, p22, p23⟩ := AX.out.1)
            | (go_at_call 65; refine (CT.out _).mono ?_; rintro e wx ⟨rfl, hbx⟩; (first | (have AY : Hid (IA wx w.heap.size i ∧ Below w.heap.size w wx) := ⟨AX.out.1.bel hbx, bel_trans AX.out.2 hbx⟩) | (have AY : Hid (IA wx w.heap.size i ∧ Below w.heap.size w wx) := ⟨(IA.new w i 25).bel hbx, bel_trans (bel_alloc (Below.refl _ _) _) hbx⟩)); clear hbx; (try clear p0 p1 p2 p3 p4 p5 p6 p7 p8 p9 p10 p11 p12 p13 p14 p15 p16 p17 p18 p19 p20 p21 p22 p23); (try clear AX); have AX := AY; clear AY; obtain ⟨p0, p1, p2, p3, p4, p5, p6, p7, p8, p9, p10, p11, p12, p13, p14, p15, p16, p17, p18, p19, p20, p21, p22, p23⟩ := AX.out.1)
            | (go_at_call 62; refine (CF.out _).mono ?_; rintro e wx ⟨rfl, hbx⟩; (first | (have AY : Hid (IA wx w.heap.size i ∧ Below w.heap.size w wx) := ⟨AX.out.1.bel hbx, bel_trans AX.out.2 hbx⟩) | (have AY : Hid (IA wx w.heap.size i ∧ Below w.heap.size w wx) := ⟨(IA.new w i 25).bel hbx, bel_trans (bel_alloc (Below.refl _ _) _) hbx⟩)); clear hbx; (try clear p0 p1 p2 p3 p4 p5 p6 p7 p8 p9 p10 p11 p12 p13 p14 p15 p16 p17 p18 p19 p20 p21 p22 p23); (try clear AX); have AX := AY; clear AY; obtain ⟨p0, p1, p2, p3, p4, p5, p6, p7, p8, p9, p10, p11, p12, p13, p14, p15, p16, p17, p18, p19, p20, p21, p22, p23⟩ := AX.out.1))
          go_ret
          exact ⟨ret_bool (by rw [HZ.out]; rfl), AX.out.2⟩
  · rcases a with _ | _
    · have HZ : Hid (z = (b && (c && i.fr.r == 1))) := ⟨M3.out rfl⟩
      clear M1 M2 M3 M4
      rcases b with _ | _ <;> rcases c with _ | _
      all_goals
        have AX : True := trivial
        go_enter Tryd.func66, Tryd.ntmps66
        go_wp2_with (first
          | (go_at_call 63; refine (CI.out _).mono ?_; rintro e wx ⟨rfl, hbx⟩; (first | (have AY : Hid (IA wx w.heap.size i ∧ Below w.heap.size w wx) := ⟨AX.out.1.bel hbx, bel_trans AX.out.2 hbx⟩) | (have AY : Hid (IA wx w.heap.size i ∧ Below w.heap.size w wx) := ⟨(IA.new w i 25).bel hbx, bel_trans (bel_alloc (Below.refl _ _) _) hbx⟩)); clear hbx; (try clear p0 p1 p2 p3 p4 p5 p6 p7 p8 p9 p10 p11 p12 p13 p14 p15 p16 p17 p18 p19 p20 p21 p22 p23); (try clear AX); have AX := AY; clear AY; obtain ⟨p0, p1, p2, p3, p4, p5, p6, p7, p8, p9, p10, p11, p12, p13, p14, p15, p16, p17, p18, p19, p20, p21, p22, p23⟩ := AX.out.1)
          | (go_at_call 65; refine (CT.out _).mono ?_; rintro e wx ⟨rfl, hbx⟩; (first | (have AY : Hid (IA wx w.heap.size i ∧ Below w.heap.size w wx) := ⟨AX.out.1.bel hbx, bel_trans AX.out.2 hbx⟩) | (have AY : Hid (IA wx w.heap.size i ∧ Below w.heap.size w wx) := ⟨(IA.new w i 25).bel hbx, bel_trans (bel_alloc (Below.refl _ _) _) hbx⟩)); clear hbx; (try clear p0 p1 p2 p3 p4 p5 p6 p7 p8 p9 p10 p11 p12 p13 p14 p15 p16 p17 p18 p19 p20 p21 p22 p23); (try clear AX); have AX := AY; clear AY; obtain ⟨p0, p1, p2, p3, p4, p5, p6, p7, p8, p9, p10, p11, p12, p13, p14, p15, p16, p17, p18, p19, p20, p21, p22, p23⟩ := AX.out.1)
          | (go_at_call 62; refine (CF.out _).mono ?_; rintro e wx ⟨rfl, hbx⟩; (first | (have AY : Hid (IA wx w.heap.size i ∧ Below w.heap.size w wx) := ⟨AX.out.1.bel hbx, bel_trans AX.out.2 hbx⟩) | (have AY : Hid (IA wx w.heap.size i ∧ Below w.heap.size w wx) := ⟨(IA.new w i 25).bel hbx, bel_trans (bel_alloc (Below.refl _ _) _) hbx⟩)); clear hbx; (try clear p0 p1 p2 p3 p4 p5 p6 p7 p8 p9 p10 p11 p12 p13 p14 p15 p16 p17 p18 p19 p20 p21 p22 p23); (try clear AX); have AX := AY; clear AY; obtain ⟨p0, p1, p2, p3, p4, p5, p6, p7, p8, p9, p10, p11, p12, p13, p14, p15, p16, p17, p18, p19, p20, p21, p22, p23⟩ := AX.out.1))
        go_ret
        exact ⟨ret_bool (by rw [HZ.out]; rfl), AX.out.2⟩
    · by_cases e1 : 0 ≤ i.fr.n
      · by_cases e2 : i.fr.n ≤ 63
        · have HZ : Hid (z = b) := ⟨M4.out rfl e1 e2⟩
          clear M1 M2 M3 M4
          rcases b with _ | _
          all_goals
            have AX : True := trivial
            go_enter Tryd.func66, Tryd.ntmps66
            go_wp2_with (first
              | (go_at_call 63; refine (CI.out _).mono ?_; rintro e wx ⟨rfl, hbx⟩; (first | (have AY : Hid (IA wx w.heap.size i ∧ Below w.heap.size w wx) := ⟨AX.out.1.bel hbx, bel_trans AX.out.2 hbx⟩) | (have AY : Hid (IA wx w.heap.size i ∧ Below w.heap.size w wx) := ⟨(IA.new w i 25).bel hbx, bel_trans (bel_alloc (Below.refl _ _) _) hbx⟩)); clear hbx; (try clear p0 p1 p2 p3 p4 p5 p6 p7 p8 p9 p10 p11 p12 p13 p14 p15 p16 p17 p18 p19 p20 p21 p22 p23); (try clear AX); have AX := AY; clear AY; obtain ⟨p0, p1, p2, p3, p4, p5, p6, p7, p8, p9, p10, p11, p12, p13, p14, p15, p16, p17, p18, p19, p20, p21, p22, p23⟩ := AX.out.1)
              | (go_at_call 65; refine (CT.out _).mono ?_; rintro e wx ⟨rfl, hbx⟩; (first | (have AY : Hid (IA wx w.heap.size i ∧ Below w.heap.size w wx) := ⟨AX.out.1.bel hbx, bel_trans AX.out.2 hbx⟩) | (have AY : Hid (IA wx w.heap.size i ∧ Below w.heap.size w wx) := ⟨(IA.new w i 25).bel hbx, bel_trans (bel_alloc (Below.refl _ _) _) hbx⟩)); clear hbx; (try clear p0 p1 p2 p3 p4 p5 p6 p7 p8 p9 p10 p11 p12 p13 p14 p15 p16 p17 p18 p19 p20 p21 p22 p23); (try clear AX); have AX := AY; clear AY; obtain ⟨p0, p1, p2, p3, p4, p5, p6, p7, p8, p9, p10, p11, p12, p13, p14, p15, p16, p17, p18, p19, p20, p21, p22, p23⟩ := AX.out.1)
              | (go_at_call 62; refine (CF.out _).mono ?_; rintro e wx ⟨rfl, hbx⟩; (first | (have AY : Hid (IA wx w.heap.size i ∧ Below w.heap.size w wx) := ⟨AX.out.1.bel hbx, bel_trans AX.out.2 hbx⟩) | (have AY : Hid (IA wx w.heap.size i ∧ Below w.heap.size w wx) := ⟨(IA.new w i 25).bel hbx, bel_trans (bel_alloc (Below.refl _ _) _) hbx⟩)); clear hbx; (try clear p0 p1 p2 p3 p4 p5 p6 p7 p8 p9 p10 p11 p12 p13 p14 p15 p16 p17 p18 p19 p20 p21 p22 p23); (try clear AX); have AX := AY; clear AY; obtain ⟨p0, p1, p2, p3, p4, p5, p6, p7, p8, p9, p10, p11, p12, p13, p14, p15, p16, p17, p18, p19, p20, p21, p22, p23⟩ := AX.out.1))
            go_ret
            exact ⟨ret_bool (by rw [HZ.out]), AX.out.2⟩
        · have HZ : Hid (z = (b && (c && i.fr.r == 1))) := ⟨M2.out e1 e2⟩
          have e3 : decide (i.fr.n ≤ 63) = false := decide_eq_false e2
          clear M1 M2 M3 M4
          rcases b with _ | _ <;> rcases c with _ | _
          all_goals
            have AX : True := trivial
            go_enter Tryd.func66, Tryd.ntmps66
            go_wp2_with (first
              | (go_at_call 63; refine (CI.out _).mono ?_; rintro e wx ⟨rfl, hbx⟩; (first | (have AY : Hid (IA wx w.heap.size i ∧ Below w.heap.size w wx) := ⟨AX.out.1.bel hbx, bel_trans AX.out.2 hbx⟩) | (have AY : Hid (IA wx w.heap.size i ∧ Below w.heap.size w wx) := ⟨(IA.new w i 25).bel hbx, bel_trans (bel_alloc (Below.refl _ _) _) hbx⟩)); clear hbx; (try clear p0 p1 p2 p3 p4 p5 p6 p7 p8 p9 p10 p11 p12 p13 p14 p15 p16 p17 p18 p19 p20 p21 p22 p23); (try clear AX); have AX := AY; clear AY; obtain ⟨p0, p1, p2, p3, p4, p5, p6, p7, p8, p9, p10, p11, p12, p13, p14, p15, p16, p17, p18, p19, p20, p21, p22, p23⟩ := AX.out.1)
              | (go_at_call 65; refine (CT.out _).mono ?_; rintro e wx ⟨rfl, hbx⟩; (first | (have AY : Hid (IA wx w.heap.size i ∧ Below w.heap.size w wx) := ⟨AX.out.1.bel hbx, bel_trans AX.out.2 hbx⟩) | (have AY : Hid (IA wx w.heap.size i ∧ Below w.heap.size w wx) := ⟨(IA.new w i 25).bel hbx, bel_trans (bel_alloc (Below.refl _ _) _) hbx⟩)); clear hbx; (try clear p0 p1 p2 p3 p4 p5 p6 p7 p8 p9 p10 p11 p12 p13 p14 p15 p16 p17 p18 p19 p20 p21 p22 p23); (try clear AX); have AX := AY; clear AY; obtain ⟨p0, p1, p2, p3, p4, p5, p6, p7, p8, p9, p10, p11, p12, p13, p14, p15, p16, p17, p18, p19, p20, p21, p22, p23⟩ := AX.out.1)
              | (go_at_call 62; refine (CF.out _).mono ?_; rintro e wx ⟨rfl, hbx⟩; (first | (have AY : Hid (IA wx w.heap.size i ∧ Below w.heap.size w wx) := ⟨AX.out.1.bel hbx, bel_trans AX.out.2 hbx⟩) | (have AY : Hid (IA wx w.heap.size i ∧ Below w.heap.size w wx) := ⟨(IA.new w i 25).bel hbx, bel_trans (bel_alloc (Below.refl _ _) _) hbx⟩)); clear hbx; (try clear p0 p1 p2 p3 p4 p5 p6 p7 p8 p9 p10 p11 p12 p13 p14 p15 p16 p17 p18 p19 p20 p21 p22 p23); (try clear AX); have AX := AY; clear AY; obtain ⟨p0, p1, p2, p3, p4, p5, p6, p7, p8, p9, p10, p11, p12, p13, p14, p15, p16, p17, p18, p19, p20, p21, p22, p23⟩ := AX.out.1))
            go_ret
            exact ⟨ret_bool (by rw [HZ.out]; rfl), AX.out.2⟩
      · have HZ : Hid (z = (b && (c && i.fr.r == 1))) := ⟨M1.out e1⟩
        clear M1 M2 M3 M4
        rcases b with _ | _ <;> rcases c with _ | _
        all_goals
          have AX : True := trivial
          go_enter Tryd.func66, Tryd.ntmps66
          go_wp2_with (first
            | (go_at_call 63; refine (CI.out _).mono ?_; rintro e wx ⟨rfl, hbx⟩; (first | (have AY : Hid (IA wx w.heap.size i ∧ Below w.heap.size w wx) := ⟨AX.out.1.bel hbx, bel_trans AX.out.2 hbx⟩) | (have AY : Hid (IA wx w.heap.size i ∧ Below w.heap.size w wx) := ⟨(IA.new w i 25).bel hbx, bel_trans (bel_alloc (Below.refl _ _) _) hbx⟩)); clear hbx; (try clear p0 p1 p2 p3 p4 p5 p6 p7 p8 p9 p10 p11 p12 p13 p14 p15 p16 p17 p18 p19 p20 p21 p22 p23); (try clear AX); have AX := AY; clear AY; obtain ⟨p0, p1, p2, p3, p4, p5, p6, p7, p8, p9, p10, p11, p12, p13, p14, p15, p16, p17, p18, p19, p20, p21, p22, p23⟩ := AX.out.1)
            | (go_at_call 65; refine (CT.out _).mono ?_; rintro e wx ⟨rfl, hbx⟩; (first | (have AY : Hid (IA wx w.heap.size i ∧ Below w.heap.size w wx) := ⟨AX.out.1.bel hbx, bel_trans AX.out.2 hbx⟩) | (have AY : Hid (IA wx w.heap.size i ∧ Below w.heap.size w wx) := ⟨(IA.new w i 25).bel hbx, bel_trans (bel_alloc (Below.refl _ _) _) hbx⟩)); clear hbx; (try clear p0 p1 p2 p3 p4 p5 p6 p7 p8 p9 p10 p11 p12 p13 p14 p15 p16 p17 p18 p19 p20 p21 p22 p23); (try clear AX); have AX := AY; clear AY; obtain ⟨p0, p1, p2, p3, p4, p5, p6, p7, p8, p9, p10, p11, p12, p13, p14, p15, p16, p17, p18, p19, p20, p21, p22, p23⟩ := AX.out.1)
            | (go_at_call 62; refine (CF.out _).mono ?_; rintro e wx ⟨rfl, hbx⟩; (first | (have AY : Hid (IA wx w.heap.size i ∧ Below w.heap.size w wx) := ⟨AX.out.1.bel hbx, bel_trans AX.out.2 hbx⟩) | (have AY : Hid (IA wx w.heap.size i ∧ Below w.heap.size w wx) := ⟨(IA.new w i 25).bel hbx, bel_trans (bel_alloc (Below.refl _ _) _) hbx⟩)); clear hbx; (try clear p0 p1 p2 p3 p4 p5 p6 p7 p8 p9 p10 p11 p12 p13 p14 p15 p16 p17 p18 p19 p20 p21 p22 p23); (try clear AX); have AX := AY; clear AY; obtain ⟨p0, p1, p2, p3, p4, p5, p6, p7, p8, p9, p10, p11, p12, p13, p14, p15, p16, p17, p18, p19, p20, p21, p22, p23⟩ := AX.out.1))
          go_ret
          exact ⟨ret_bool (by rw [HZ.out]; rfl), AX.out.2⟩
end Go.Proofs.YtdgejingoamfeaaDoor

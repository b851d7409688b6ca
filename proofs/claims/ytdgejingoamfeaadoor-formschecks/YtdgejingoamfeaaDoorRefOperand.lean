/- The document's memory and operand, of operands that may be. The document's operand. -/
import Derived.Test.YtdgejingoamfeaaDoorRefMemB
import Derived.Test.YtdgejingoamfeaaDoorRefMemC
import Derived.Test.YtdgejingoamfeaaDoorTextAny
namespace Go.Proofs.YtdgejingoamfeaaDoor
open Go.ChangeShapes Go.WideShapes Go.ChangeAt Go.RowKit
set_option linter.unusedVariables false
set_option linter.unusedSimpArgs false

theorem mem_flags {o : O} (h : mayB o = true) (hk : o.k = 3) : (o.rip = true → o.fs = false) ∧ (o.rip = false → o.fs = true → o.b < 0) ∧ (o.rip = false → o.fs = false → ¬ o.b < 0) ∧ (o.rip = false → o.fs = false → ¬ o.x < 0 → 0 ≤ o.s ∧ o.s ≤ 8) := by
  unfold mayB at h
  simp only [hk] at h
  rw [if_neg (by decide), if_neg (by decide), if_neg (by decide), if_pos trivial] at h
  unfold memMayB at h
  split at h
  · rename_i hr
    simp only [Bool.and_eq_true, O.same, beq_iff_eq] at h
    refine ⟨fun _ => h.2.1.2.2.2.2.2.2.1, fun e => ?_, fun e => ?_, fun e => ?_⟩
    all_goals rw [hr] at e; cases e
  · rename_i hr
    split at h
    · rename_i hf
      simp only [Bool.and_eq_true, O.same, beq_iff_eq] at h
      refine ⟨fun e => absurd e hr, fun _ _ => by omega, fun _ e => ?_, fun _ e => ?_⟩
      all_goals rw [hf] at e; cases e
    · rename_i hf
      simp only [Bool.and_eq_true] at h
      have hb := (isReg_iff o.b).1 h.1.2.1
      have hx := h.1.2.2
      refine ⟨fun e => absurd e hr, fun _ e => absurd e hf, fun _ _ => by omega, fun _ _ hx0 => ?_⟩
      unfold indexMayB at hx
      split at hx
      · omega
      · simp only [Bool.and_eq_true, List.contains_iff_mem] at hx
        have := hx.2.2
        simp only [List.mem_cons, List.not_mem_nil, or_false] at this
        omega

theorem fs_s (d g : ByteArray) : ((d ++ ⟨#[40]⟩) ++ (⟨#[37]⟩ ++ g)) = (d ++ ⟨#[40, 37]⟩) ++ g := by
  rw [ByteArray.append_assoc, ← ByteArray.append_assoc (a := ⟨#[40]⟩), ByteArray.append_assoc (a := d)]; rfl
theorem none_app (g : ByteArray) : (⟨#[]⟩ : ByteArray) ++ g = g := ByteArray.empty_append

theorem memV_rip (k r b x s n m : Int) (nm : ByteArray) : memV ⟨k, r, b, x, s, true, false, n, nm, m⟩ = dispV ⟨k, r, b, x, s, true, false, n, nm, m⟩ ++ ⟨#[40, 37, 114, 105, 112, 41]⟩ := rfl
theorem memV_fs (k r b x s n m : Int) (nm : ByteArray) : memV ⟨k, r, b, x, s, false, true, n, nm, m⟩ = ⟨#[37, 102, 115, 58]⟩ ++ dispV ⟨k, r, b, x, s, false, true, n, nm, m⟩ := rfl
theorem memV_base (k r b x s n m : Int) (nm : ByteArray) (hx : x < 0) : memV ⟨k, r, b, x, s, false, false, n, nm, m⟩ = ((dispV ⟨k, r, b, x, s, false, false, n, nm, m⟩ ++ ⟨#[40, 37]⟩) ++ regV b 8) ++ ⟨#[41]⟩ := by
  unfold memV
  rw [if_neg (by simp), if_neg (by simp), if_pos hx]
  unfold baseV
  rw [fs_s]
theorem memV_long (k r b x s n m : Int) (nm : ByteArray) (hx : ¬ x < 0) : memV ⟨k, r, b, x, s, false, false, n, nm, m⟩ = ((((((dispV ⟨k, r, b, x, s, false, false, n, nm, m⟩ ++ ⟨#[40, 37]⟩) ++ regV b 8) ++ ⟨#[44, 37]⟩) ++ regV x 8) ++ ⟨#[44]⟩) ++ itoaS s) ++ ⟨#[41]⟩ := by
  unfold memV
  rw [if_neg (by simp), if_neg (by simp), if_neg hx]
  unfold baseV
  rw [fs_s]

theorem disp_d0 (k r b x s n m : Int) (nm : ByteArray) (rip : Bool) (he : nm.toList.isEmpty = true) (h0 : n = 0) : dispV ⟨k, r, b, x, s, rip, false, n, nm, m⟩ = ⟨#[]⟩ := by
  unfold dispV empB; rw [if_pos he, if_pos ⟨h0, rfl⟩]
theorem disp_d1 (k r b x s n m : Int) (nm : ByteArray) (rip fs : Bool) (he : nm.toList.isEmpty = true) (h0 : ¬ (n = 0 ∧ fs = false)) : dispV ⟨k, r, b, x, s, rip, fs, n, nm, m⟩ = itoaS n := by
  unfold dispV empB; rw [if_pos he, if_neg h0]
theorem disp_d2 (k r b x s n m : Int) (nm : ByteArray) (rip fs : Bool) (he : nm.toList.isEmpty = false) (h0 : n = 0) : dispV ⟨k, r, b, x, s, rip, fs, n, nm, m⟩ = nm ++ modV m := by
  unfold dispV empB; rw [he, if_neg (by simp), if_pos h0]
theorem disp_d3 (k r b x s n m : Int) (nm : ByteArray) (rip fs : Bool) (he : nm.toList.isEmpty = false) (h0 : ¬ n = 0) : dispV ⟨k, r, b, x, s, rip, fs, n, nm, m⟩ = nm ++ modV m ++ signV n := by
  unfold dispV empB; rw [he, if_neg (by simp), if_neg h0]

theorem refMemory_any (o : O) (w : World) (h : mayB o = true) (hk : o.k = 3) (hn : i64 o.n) (hs : i64 o.s) :
    Calls Tryd.prog 53 #[o.val] w fun e w' => e = .returned (.string (memV o)) ∧ Below w.heap.size w w' := by
  obtain ⟨hm, hsz⟩ := (tok_of h hn hs).m (.inl hk)
  obtain ⟨f1, f2, f3, f4⟩ := mem_flags h hk
  obtain ⟨k, r, b, x, s, rip, fs, n, nm, m⟩ := o
  clear h hk
  simp only at hn hs hm hsz f1 f2 f3 f4
  have z1 := modV_size m
  have z2 := signV_size n hn
  have z3 := itoa_size n hn
  have z4 := regV_size b 8
  have z5 := regV_size x 8
  have HM := hid (fun v => refMod_any m hm v)
  have HS := hid (fun v => refSigned_any n hn v)
  have HI := hid (fun v => refWhole_any n hn v)
  have HG := hid (fun v => refRegister_any b 8 v)
  have HGG := hid (fun y v => refRegister_any y 8 v)
  rcases rip with _ | _
  · rcases fs with _ | _
    · have hb := f3 rfl rfl
      by_cases hx : x < 0
      · skip
        by_cases he : nm.toList.isEmpty = true
        · by_cases h0 : n = 0
          · exact refMem_none_base k r b x s n m nm (modV m) (signV n) (itoaS n) (regV b 8) (regV x 8) ⟨#[]⟩ _ ⟨hsz, z1, z2, z3, z4, z5, by decide⟩ he (by simp [h0]) hb hx HG ⟨by rw [memV_base _ _ _ _ _ _ _ _ hx, disp_d0 k r b x s n m nm false he h0, none_app]⟩ w
          · exact refMem_num_base k r b x s n m nm (modV m) (signV n) (itoaS n) (regV b 8) (regV x 8) ⟨#[]⟩ _ ⟨hsz, z1, z2, z3, z4, z5, by decide⟩ he (by simp [h0]) hb hx HI HG ⟨by rw [memV_base _ _ _ _ _ _ _ _ hx, disp_d1 k r b x s n m nm false false he (by simp [h0])]⟩ w
        · have he : nm.toList.isEmpty = false := by simpa using he
          by_cases h0 : n = 0
          · exact refMem_name_base k r b x s n m nm (modV m) (signV n) (itoaS n) (regV b 8) (regV x 8) ⟨#[]⟩ _ ⟨hsz, z1, z2, z3, z4, z5, by decide⟩ he (by simp [h0]) hb hx HM HG ⟨by rw [memV_base _ _ _ _ _ _ _ _ hx, disp_d2 k r b x s n m nm false false he h0]⟩ w
          · exact refMem_both_base k r b x s n m nm (modV m) (signV n) (itoaS n) (regV b 8) (regV x 8) ⟨#[]⟩ _ ⟨hsz, z1, z2, z3, z4, z5, by decide⟩ he (by simp [h0]) hb hx HM HS HG ⟨by rw [memV_base _ _ _ _ _ _ _ _ hx, disp_d3 k r b x s n m nm false false he h0]⟩ w
      · obtain ⟨s0, s8⟩ := f4 rfl rfl hx
        have hi := itoa_pos s s0
        have z6 := digS_size s.toNat (by omega)
        have HD := hid (fun v => digits_any s.toNat (by omega) v)
        rw [show ((s.toNat : Nat) : Int) = s by omega] at HD
        by_cases he : nm.toList.isEmpty = true
        · by_cases h0 : n = 0
          · exact refMem_none_long k r b x s n m nm (modV m) (signV n) (itoaS n) (digS s.toNat) _ (fun y => regV y 8) ⟨hsz, z1, z2, z3, z4, z5, z6⟩ he (by simp [h0]) hb hx HGG HD ⟨by rw [memV_long _ _ _ _ _ _ _ _ hx, disp_d0 k r b x s n m nm false he h0, none_app, hi]⟩ w
          · exact refMem_num_long k r b x s n m nm (modV m) (signV n) (itoaS n) (digS s.toNat) _ (fun y => regV y 8) ⟨hsz, z1, z2, z3, z4, z5, z6⟩ he (by simp [h0]) hb hx HI HGG HD ⟨by rw [memV_long _ _ _ _ _ _ _ _ hx, disp_d1 k r b x s n m nm false false he (by simp [h0]), hi]⟩ w
        · have he : nm.toList.isEmpty = false := by simpa using he
          by_cases h0 : n = 0
          · exact refMem_name_long k r b x s n m nm (modV m) (signV n) (itoaS n) (digS s.toNat) _ (fun y => regV y 8) ⟨hsz, z1, z2, z3, z4, z5, z6⟩ he (by simp [h0]) hb hx HM HGG HD ⟨by rw [memV_long _ _ _ _ _ _ _ _ hx, disp_d2 k r b x s n m nm false false he h0, hi]⟩ w
          · exact refMem_both_long k r b x s n m nm (modV m) (signV n) (itoaS n) (digS s.toNat) _ (fun y => regV y 8) ⟨hsz, z1, z2, z3, z4, z5, z6⟩ he (by simp [h0]) hb hx HM HS HGG HD ⟨by rw [memV_long _ _ _ _ _ _ _ _ hx, disp_d3 k r b x s n m nm false false he h0, hi]⟩ w
    · have hb := f2 rfl rfl
      by_cases he : nm.toList.isEmpty = true
      · exact refMem_num_none_fs k r b x s n m nm (modV m) (signV n) (itoaS n) (regV b 8) (regV x 8) ⟨#[]⟩ _ _ ⟨hsz, z1, z2, z3, z4, z5, by decide⟩ he rfl hb HI ⟨by rw [memV_fs, disp_d1 k r b x s n m nm false true he (by simp)]⟩ w
      · have he : nm.toList.isEmpty = false := by simpa using he
        by_cases h0 : n = 0
        · exact refMem_name_none_fs k r b x s n m nm (modV m) (signV n) (itoaS n) (regV b 8) (regV x 8) ⟨#[]⟩ _ ⟨hsz, z1, z2, z3, z4, z5, by decide⟩ he (by simp [h0]) hb HM ⟨by rw [memV_fs, disp_d2 k r b x s n m nm false true he h0, ← ByteArray.append_assoc]⟩ w
        · exact refMem_both_none_fs k r b x s n m nm (modV m) (signV n) (itoaS n) (regV b 8) (regV x 8) ⟨#[]⟩ _ ⟨hsz, z1, z2, z3, z4, z5, by decide⟩ he (by simp [h0]) hb HM HS ⟨by rw [memV_fs, disp_d3 k r b x s n m nm false true he h0, ← ByteArray.append_assoc, ← ByteArray.append_assoc]⟩ w
  · have hf := f1 rfl
    subst hf
    by_cases he : nm.toList.isEmpty = true
    · by_cases h0 : n = 0
      · exact refMem_none_rip k r b x s n m nm (modV m) (signV n) (itoaS n) (regV b 8) (regV x 8) ⟨#[]⟩ _ ⟨hsz, z1, z2, z3, z4, z5, by decide⟩ he (by simp [h0]) ⟨by rw [memV_rip, disp_d0 k r b x s n m nm true he h0, none_app]⟩ w
      · exact refMem_num_rip k r b x s n m nm (modV m) (signV n) (itoaS n) (regV b 8) (regV x 8) ⟨#[]⟩ _ ⟨hsz, z1, z2, z3, z4, z5, by decide⟩ he (by simp [h0]) HI ⟨by rw [memV_rip, disp_d1 k r b x s n m nm true false he (by simp [h0])]⟩ w
    · have he : nm.toList.isEmpty = false := by simpa using he
      by_cases h0 : n = 0
      · exact refMem_name_rip k r b x s n m nm (modV m) (signV n) (itoaS n) (regV b 8) (regV x 8) ⟨#[]⟩ _ ⟨hsz, z1, z2, z3, z4, z5, by decide⟩ he (by simp [h0]) HM ⟨by rw [memV_rip, disp_d2 k r b x s n m nm true false he h0]⟩ w
      · exact refMem_both_rip k r b x s n m nm (modV m) (signV n) (itoaS n) (regV b 8) (regV x 8) ⟨#[]⟩ _ ⟨hsz, z1, z2, z3, z4, z5, by decide⟩ he (by simp [h0]) HM HS ⟨by rw [memV_rip, disp_d3 k r b x s n m nm true false he h0]⟩ w


set_option maxHeartbeats 2000000 in
theorem refOperand_any (o : O) (z : Int) (w : World) (h : mayB o = true) (hk : o.k ≠ 0) (hn : i64 o.n) (hs : i64 o.s) :
    Calls Tryd.prog 30 #[o.val, .int .i64 z] w fun e w' => e = .returned (.string (opdV o z)) ∧ Below w.heap.size w w' := by
  have HG : Hid (∀ v, Calls Tryd.prog 22 #[.int .i64 o.r, .int .i64 z] v fun e w' => e = .returned (.string (regV o.r z)) ∧ Below v.heap.size v w') := ⟨fun v => refRegister_any o.r z v⟩
  have HI : Hid (∀ v, Calls Tryd.prog 52 #[.int .i64 o.n] v fun e w' => e = .returned (.string (itoaS o.n)) ∧ Below v.heap.size v w') := ⟨fun v => refWhole_any o.n hn v⟩
  have HS : Hid (∀ v, Calls Tryd.prog 55 #[.int .i64 o.n] v fun e w' => e = .returned (.string (signV o.n)) ∧ Below v.heap.size v w') := ⟨fun v => refSigned_any o.n hn v⟩
  have T := tok_of h hn hs
  have h1 := regV_size o.r z
  have h2 := itoa_size o.n hn
  have h3 := signV_size o.n hn
  have h4 := modV_size o.m
  have hk4 : o.k = 1 ∨ o.k = 2 ∨ o.k = 3 ∨ o.k = 4 := by
    by_cases e1 : o.k = 1
    · exact .inl e1
    · by_cases e2 : o.k = 2
      · exact .inr (.inl e2)
      · by_cases e3 : o.k = 3
        · exact .inr (.inr (.inl e3))
        · by_cases e4 : o.k = 4
          · exact .inr (.inr (.inr e4))
          · unfold mayB at h
            rw [if_neg hk, if_neg e1, if_neg e2, if_neg e3, if_neg e4] at h
            cases h
  rcases hk4 with e | e | e | e
  · have HR : Hid (opdV o z = ⟨#[37]⟩ ++ regV o.r z) := ⟨by unfold opdV; rw [if_pos e]⟩
    have e1 : (o.k == 1) = true := by simp [e]
    generalize regV o.r z = g at *
    unfold O.val
    clear h hk e T
    go_enter Tryd.func30, Tryd.ntmps30
    go_wp2_with (go_at_call 22; refine (HG.out _).mono ?_; rintro e w1 ⟨rfl, hb⟩)
    go_ret
    exact ⟨ret_str HR.out.symm, bel_trans (bel_alloc (Below.refl _ _) _) hb⟩
  · have HR : Hid (opdV o z = ⟨#[36]⟩ ++ itoaS o.n) := ⟨by unfold opdV; rw [if_neg (by omega), if_pos e]⟩
    have e1 : (o.k == 1) = false := by simp [e]
    have e2 : (o.k == 2) = true := by simp [e]
    generalize itoaS o.n = g at *
    unfold O.val
    clear h hk e T
    go_enter Tryd.func30, Tryd.ntmps30
    go_wp2_with (go_at_call 52; refine (HI.out _).mono ?_; rintro e w1 ⟨rfl, hb⟩)
    go_ret
    exact ⟨ret_str HR.out.symm, bel_trans (bel_alloc (Below.refl _ _) _) hb⟩
  · have HR : Hid (opdV o z = memV o) := ⟨by unfold opdV; rw [if_neg (by omega), if_neg (by omega), if_pos e]⟩
    have e1 : (o.k == 1) = false := by simp [e]
    have e2 : (o.k == 2) = false := by simp [e]
    have e3 : (o.k == 3) = true := by simp [e]
    have HM : Hid (∀ v, Calls Tryd.prog 53 #[.agg #[.int .i64 o.k, .int .i64 o.r, .int .i64 o.b, .int .i64 o.x, .int .i64 o.s, .bool o.rip, .bool o.fs, .int .i64 o.n, .string o.nm, .int .i64 o.m]] v fun e w' => e = .returned (.string (memV o)) ∧ Below v.heap.size v w') := ⟨fun v => refMemory_any o v h e hn hs⟩
    unfold O.val
    clear h hk e T
    go_enter Tryd.func30, Tryd.ntmps30
    go_wp2_with (go_at_call 53; refine (HM.out _).mono ?_; rintro e w1 ⟨rfl, hb⟩)
    go_ret
    exact ⟨ret_str HR.out.symm, bel_trans (bel_alloc (Below.refl _ _) _) hb⟩
  · obtain ⟨hm, hz⟩ := T.m (.inr e)
    have HR : Hid (opdV o z = targetV o) := ⟨by unfold opdV; rw [if_neg (by omega), if_neg (by omega), if_neg (by omega), if_pos e]⟩
    have HM : Hid (∀ v, Calls Tryd.prog 54 #[.int .i64 o.m] v fun e w' => e = .returned (.string (modV o.m)) ∧ Below v.heap.size v w') := ⟨fun v => refMod_any o.m hm v⟩
    have e1 : (o.k == 1) = false := by simp [e]
    have e2 : (o.k == 2) = false := by simp [e]
    have e3 : (o.k == 3) = false := by simp [e]
    cases he : o.nm.toList.isEmpty
    · have HQ : Hid (opdV o z = o.nm ++ modV o.m) := ⟨by rw [HR.out]; unfold targetV empB; rw [he, if_neg (by simp)]⟩
      generalize modV o.m = md at *
      have S1 : ∀ v, (Op.stringOp .add o.nm md).run Tryd.prog v = .ok (.string (o.nm ++ md)) v := fun v => run_string_add_sum v _ _ (by omega)
      have A : Hid (OA (w.alloc (.cells #[.int .i64 o.k, .int .i64 o.r, .int .i64 o.b, .int .i64 o.x, .int .i64 o.s, .bool o.rip, .bool o.fs, .int .i64 o.n, .string o.nm, .int .i64 o.m] 23)) w.heap.size o ∧ Below w.heap.size w (w.alloc (.cells #[.int .i64 o.k, .int .i64 o.r, .int .i64 o.b, .int .i64 o.x, .int .i64 o.s, .bool o.rip, .bool o.fs, .int .i64 o.n, .string o.nm, .int .i64 o.m] 23))) := ⟨OA.new w o 23, bel_alloc (Below.refl _ _) _⟩
      unfold O.val
      clear h hk e T HR hm hz h1 h2 h3 h4
      go_enter Tryd.func30, Tryd.ntmps30
      go_wp2
      generalize w.alloc (.cells #[.int .i64 o.k, .int .i64 o.r, .int .i64 o.b, .int .i64 o.x, .int .i64 o.s, .bool o.rip, .bool o.fs, .int .i64 o.n, .string o.nm, .int .i64 o.m] 23) = v at *
      have hA0 : OA v.drew w.heap.size o ∧ Below w.heap.size w v.drew := ⟨A.out.1.bel (bel_drew _), A.out.2.drew⟩
      have K : v.drew.cell? ⟨w.heap.size, 8, none⟩ = some (.string o.nm) ∧ v.drew.cell? ⟨w.heap.size, 9, none⟩ = some (.int .i64 o.m) ∧ Hid (OA v.drew w.heap.size o ∧ Below w.heap.size w v.drew) := ⟨hA0.1.c8, hA0.1.c9, ⟨hA0⟩⟩
      have HK : Hid (∀ v u : World, (v.cell? ⟨w.heap.size, 8, none⟩ = some (.string o.nm) ∧ v.cell? ⟨w.heap.size, 9, none⟩ = some (.int .i64 o.m) ∧ Hid (OA v w.heap.size o ∧ Below w.heap.size w v)) → Below v.heap.size v u → (u.cell? ⟨w.heap.size, 8, none⟩ = some (.string o.nm) ∧ u.cell? ⟨w.heap.size, 9, none⟩ = some (.int .i64 o.m) ∧ Hid (OA u w.heap.size o ∧ Below w.heap.size w u))) := ⟨fun v u h hb => by
        have a : OA u w.heap.size o ∧ Below w.heap.size w u := ⟨h.2.2.out.1.bel hb, bel_trans h.2.2.out.2 hb⟩
        exact ⟨a.1.c8, a.1.c9, ⟨a⟩⟩⟩
      have HL : Hid (∀ v : World, (v.cell? ⟨w.heap.size, 8, none⟩ = some (.string o.nm) ∧ v.cell? ⟨w.heap.size, 9, none⟩ = some (.int .i64 o.m) ∧ Hid (OA v w.heap.size o ∧ Below w.heap.size w v)) → Below w.heap.size w v) := ⟨fun v h => h.2.2.out.2⟩
      clear A hA0
      go_region_held3 (fun v => v.cell? ⟨w.heap.size, 8, none⟩ = some (.string o.nm) ∧ v.cell? ⟨w.heap.size, 9, none⟩ = some (.int .i64 o.m) ∧ Hid (OA v w.heap.size o ∧ Below w.heap.size w v))
        (first | (with_reducible assumption) | exact HK.out _ _ (by with_reducible assumption) hb)
        (first | (go_at_call 54; refine (HM.out _).mono ?_; rintro e wp ⟨rfl, hb⟩))
      have B := hid (HL.out _ (by with_reducible assumption))
      go_wp2
      go_ret
      exact ⟨ret_str HQ.out.symm, B.out⟩
    · have HQ : Hid (opdV o z = ⟨#[46]⟩ ++ signV o.n) := ⟨by rw [HR.out]; unfold targetV empB; rw [he, if_pos rfl]⟩
      generalize signV o.n = sg at *
      unfold O.val
      clear h hk e T HR hm hz
      go_enter Tryd.func30, Tryd.ntmps30
      go_wp2_with (go_at_call 55; refine (HS.out _).mono ?_; rintro e w1 ⟨rfl, hb⟩)
      go_ret
      exact ⟨ret_str HQ.out.symm, bel_trans (bel_alloc (Below.refl _ _) _) hb⟩
end Go.Proofs.YtdgejingoamfeaaDoor

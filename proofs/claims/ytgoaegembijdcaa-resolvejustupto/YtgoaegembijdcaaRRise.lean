/- rising: all rows of a table, by name. -/
import Derived.Test.YtgoaegembijdcaaRRows
namespace Go.Proofs.Ytgoaegembijdcaa
open Go.ChangeShapes Go.WideShapes Go.ChangeAt Go.RowKit Go.Maps
set_option linter.unusedVariables false
set_option linter.unusedSimpArgs false

theorem al2g (w : World) (A B : Obj) : ∃ q os, ((w.alloc A).alloc B) = Sort.grow (w.drewN q) os := ⟨0, _, by rw [Sort.alloc_eq_grow, Sort.alloc_eq_grow, Sort.grow_grow]; rfl⟩
theorem ownR_base {α : Type} {e k : Nat} {enc : α → List Value} {w : World} {base base' : Nat} {v : Value} {l : List α} (h : OwnR e k enc w base v l) (hb : base' ≤ base) : OwnR e k enc w base' v l := by
  refine ⟨h.1, ?_⟩
  rcases h.2 with hn | ⟨g, cap, cur, hv, hg, r⟩
  · exact .inl hn
  · exact .inr ⟨g, cap, cur, hv, by omega, r⟩
theorem infoUs : (Try.prog.info? 106).map (fun i => (i.zero, i.size, i.bytes)) = some (some (.agg (encU (ByteArray.empty, Us.zero)).toArray), 11, 88) := by kernel_rfl
set_option maxHeartbeats 2000000 in
theorem cmpUs (x y : ByteArray × Us) (W : World) : Calls Try.prog 52 #[.agg (encU x).toArray, .agg (encU y).toArray] W fun e w' => e = .returned (.int .i64 (cfR x y)) ∧ ∃ q os', w' = Sort.grow (W.drewN q) os' := by
  have hcon := fun W' => strCmp_any x.1 y.1 W'
  unfold cfR
  generalize Lib.compareBytes x.1.data.toList y.1.data.toList = r at hcon ⊢
  have HC : Hid _ := ⟨hcon⟩
  clear hcon
  unfold encU
  go_enter Try.func52, Try.ntmps52
  go_wp2_with (go_at_call 53; refine (HC.out _).mono ?_; rintro e w' ⟨rfl, rfl⟩)
  go_ret
  exact ⟨rfl, al2g _ _ _⟩
theorem entersRUs : ∀ args w, (callFunc 52 args).run Try.prog w = .ok (.enter 52 args) w := enters_of Try.func52 (by kernel_rfl) rfl
theorem sortUs_any {w : World} {base : Nat} {v : Value} {l : List (ByteArray × Us)} (h : OwnR 106 11 encU w base v l) (hn : l.length < 4611686018427387904) : Calls Try.prog 51 #[v, .func (.func 52) #[] #[]] w fun e w' => e = .returned (.tuple #[]) ∧ ∃ d' : Array (ByteArray × Us), Sort.PermIn 0 l.toArray.size l.toArray d' ∧ Sort.SortedIn (ltOf cfR) 0 l.toArray.size d' ∧ OwnR 106 11 encU w' base v d'.toList ∧ w.grownBy w' v.ownBlock := by
  by_cases he : l = []
  · subst he
    obtain ⟨ao, cap, rfl, _, _, hno, _⟩ := h.any encU_len
    refine (AnyF.slices_SortFunc_none Try.sortU ao cap _ w).mono ?_
    rintro e w' ⟨rfl, rfl⟩
    exact ⟨rfl, #[], ⟨rfl, fun _ _ => rfl, List.Perm.refl _⟩, fun i j _ _ hj => absurd hj (by simp), h, ⟨rfl, rfl, rfl, Nat.le_refl _, fun _ _ _ => rfl⟩⟩
  · obtain ⟨g, cap, rfl, hb, hg, hH, hback⟩ := h.sorts encU_len (by decide) he
    have hcon := AnyQ.slices_SortFunc Try.sortU 11 Try.isAgg106 Try.sizeOf106 encU encU_len encU_one cfR swoR 52 #[] g 0 cap l.toArray w entersRUs (fun _ _ _ _ x y => cmpUs x y _) hH hg (by simpa using hn)
    refine hcon.mono ?_
    rintro e w' ⟨rfl, d', n, os, hp, hs, rfl⟩
    have hz : d'.size = l.length := by simpa using hp.1
    exact ⟨rfl, d', hp, hs, (hback d' n os hz).1, (hback d' n os hz).2⟩
set_option maxHeartbeats 8000000 in
set_option maxRecDepth 20000 in
theorem risingUs_any {w : World} {b L : Nat} {m : ByteArray → Option Us} (h : Mp Us.val w b L m) (hL : L ≤ 2097152) : Calls Try.prog 40 #[.agg #[.map (some b)]] w fun e w' => ∃ v rows, e = .returned v ∧ RowsOf rows m ∧ rows.length ≤ L ∧ OwnR 106 11 encU w' w.heap.size v rows ∧ Below w.heap.size w w' := by
  obtain ⟨n, D, hnL, hown, hI⟩ := h.own
  have hbl := hown.lt
  have HI : Hid _ := ⟨hI⟩
  have hsz : Maps.size D ≤ n := hown.size_le
  have HSZ : Hid (Maps.size D ≤ L) := ⟨by omega⟩
  obtain ⟨B, hB⟩ : ∃ B, w.heap.size = B := ⟨_, rfl⟩
  have e1 : (w.alloc (.cells #[.map (some b)] 66)).heap.size = B + 1 := by rw [← hB]; simp
  have F0 : Below B w (w.alloc (.cells #[.map (some b)] 66)) := by rw [← hB]; exact (Below.refl _ _).alloc (Nat.le_refl _) _
  go_enter Try.func40, Try.ntmps40
  go_wp2_with (at_range; refine wpList_range_own _ rfl _ 64 rfl 9 82 law9 Try.underlying64 RV b n D rfl (hown.alloc _) ?_; intro w0 hrg0 hg0 hs0)
  go_frame
  rw [e1] at hrg0 hs0 ⊢
  have F1 : Hid (Below B w w0) := ⟨F0.grown hg0 (by omega) (fun j hj => by cases hj)⟩
  have hbB : b < B := by omega
  clear hown h hI hsz hbl F0
  go_loopw [3] (fun v wr => ∃ (left : Lit → Bool) (cnt : Nat) (ss : List (ByteArray × Us)), wr.ranges Try.prog 9 RV b (B + 1) n D left cnt ∧ Hid (ss.length + cnt ≤ Maps.size D ∧ OwnR 106 11 encU wr (B + 2) v ss ∧ Coll m left ss ∧ Below B w wr ∧ B + 2 ≤ wr.heap.size)) (fun _ wr => wr.rangeLeft b (B + 1))
  case atStart => exact ⟨_, _, [], hrg0, ⟨by simp, OwnR.nil _ _, Coll.start HI.out, F1.out, by omega⟩⟩
  case round =>
    obtain ⟨left, cnt, ss, hrg, HW⟩ := hrel
    go_wp2_with (at_next; refine wpList_next_ranges _ rfl _ rfl 9 law9 RV (fun t : ByteArray => Value.string t) (fun c : Value => c) (fun key q hk => by obtain ⟨x, hx, _⟩ := Maps.keyOf_str Try.underlying9 hk; exact ⟨⟨x.toArray⟩, hx⟩) (fun c y _ => ⟨c, rfl⟩) b (B + 1) n _ _ _ rfl hrg ?_ ?_)
    · intro hc0 hl0
      have HS : Hid _ := ⟨sortUs_any HW.out.2.1 (by have := HW.out.1; have := HSZ.out; omega)⟩
      go_wp2_with (go_at_call 51; refine HS.out.mono ?_; rintro e w4 ⟨rfl, d', hp, hs, hown4, hg4⟩)
      go_ret
      obtain ⟨hR, hlen⟩ := rowsOf_sorted HW.out.2.2.1 hl0 hp hs
      have hbs := HW.out.2.1
      refine ⟨_, d'.toList, rfl, hR, by have := HW.out.1; have := HSZ.out; simp; omega, ?_, ?_⟩
      · have : B ≤ B + 2 := by omega
        first | exact ownR_base hown4 this | (rw [hB]; exact ownR_base hown4 this)
      · have := HW.out.2.2.2.1.grown hg4 (by have := HW.out.2.2.2.2; omega) (fun j hj => by have := (hbs.lt j hj).1; omega)
        first | exact this | (rw [hB]; exact this)
    · intro t c q yd yp w2 cnt2 hkey hlk hv hat hrg2 hlt hg2 hs2 hen
      obtain ⟨rfl, htz⟩ := key_is hkey
      have hyd : yd = .held c := (congrArg Prod.fst (Option.some.inj hv)).symm
      subst hyd
      obtain ⟨u, hu, rfl, hC2⟩ := Coll.step HI.out HW.out.2.2.1 hlk hat
      have hbs := HW.out.2.1
      have hnr : u3.ownBlock ≠ some (B + 1) := fun e => by have := (hbs.lt _ e).1; omega
      have HC : Hid _ := ⟨hC2⟩
      have HO : Hid (OwnR 106 11 encU w2 (B + 2) u3 ss) := ⟨hbs.kept hg2 (Or.inr hnr)⟩
      have HB : Hid (Below B w w2) := ⟨HW.out.2.2.2.1.grown hg2 (by have := HW.out.2.2.2.2; omega) (fun j hj => by cases hj; omega)⟩
      have hz2 : B + 2 ≤ w2.heap.size := by have := HW.out.2.2.2.2; omega
      have hln : ss.length + 1 ≤ 2097152 := by have := HW.out.1; have := HSZ.out; omega
      have hcn : ss.length + 1 + cnt2 ≤ Maps.size D := by have := HW.out.1; omega
      clear hs2 hbs hC2 hat hv hkey
      obtain ⟨⟨u0, u1, u2, uu3, uu4⟩, uu5, u6, u7, u8, uu9⟩ := u
      dsimp only [Us.val] at *
      have HO2 : Hid (OwnR 106 11 encU (w2.alloc (.cells #[.string u0 , .int .i64 u1 , .int .i64 u2 , .int .i64 uu3 , .int .i64 uu4 , .bool uu5 , .int .i64 u6 , .bool u7 , .bool u8 , .bool uu9] 82)) (B + 2) u3 ss) := ⟨World.ownsRow.alloc HO.out _⟩
      have HB2 : Hid (Below B w (w2.alloc (.cells #[.string u0 , .int .i64 u1 , .int .i64 u2 , .int .i64 uu3 , .int .i64 uu4 , .bool uu5 , .int .i64 u6 , .bool u7 , .bool u8 , .bool uu9] 82))) := ⟨HB.out.alloc (by omega) _⟩
      have hrg3 := hrg2.alloc (.cells #[.string u0 , .int .i64 u1 , .int .i64 u2 , .int .i64 uu3 , .int .i64 uu4 , .bool uu5 , .int .i64 u6 , .bool u7 , .bool u8 , .bool uu9] 82)
      have HRG : Hid _ := ⟨hrg3⟩
      clear hrg3 hrg2
      go_wp2_with (at_builtin; refine append_R rfl _ _ 94 (.agg (encU (ByteArray.empty, Us.zero)).toArray) 88 rfl Try.underlying94 infoUs (by kernel_rfl) (by decide) encU_len encU_one rfl HO2.out (t, ⟨⟨u0, u1, u2, uu3, uu4⟩, uu5, u6, u7, u8, uu9⟩) rfl (by simp) rfl (by unfold maxLen; omega) (by omega) (by simp; omega) ?_; intro v1 w5 hr5 hs5; go_frame)
      have hg5 := hs5.grow
      have hrow2 := HO2.out
      have hrg5 := HRG.out.kept hg5 (fun e => by have := (hrow2.lt _ e.symm).1; omega) (fun e => by have := (hrow2.lt _ e.symm).1; omega)
      go_roundw
      case rel =>
        exact ⟨_, cnt2, ss ++ [(t, ⟨⟨u0, u1, u2, uu3, uu4⟩, uu5, u6, u7, u8, uu9⟩)], hrg5, ⟨by simp; omega, hr5, HC.out, HB2.out.grown hg5 (by simp; omega) (fun j hj => by have := (hrow2.lt _ hj).1; omega), by have := hg5.size; simp at this; omega⟩⟩
      case measure => rw [hrg5.left_eq, hrg.left_eq]; exact hlt
theorem infoSh : (Try.prog.info? 112).map (fun i => (i.zero, i.size, i.bytes)) = some (some (.agg (encS (ByteArray.empty, Sh.zero)).toArray), 5, 40) := by kernel_rfl
set_option maxHeartbeats 2000000 in
theorem cmpSh (x y : ByteArray × Sh) (W : World) : Calls Try.prog 55 #[.agg (encS x).toArray, .agg (encS y).toArray] W fun e w' => e = .returned (.int .i64 (cfR x y)) ∧ ∃ q os', w' = Sort.grow (W.drewN q) os' := by
  have hcon := fun W' => strCmp_any x.1 y.1 W'
  unfold cfR
  generalize Lib.compareBytes x.1.data.toList y.1.data.toList = r at hcon ⊢
  have HC : Hid _ := ⟨hcon⟩
  clear hcon
  unfold encS
  go_enter Try.func55, Try.ntmps55
  go_wp2_with (go_at_call 53; refine (HC.out _).mono ?_; rintro e w' ⟨rfl, rfl⟩)
  go_ret
  exact ⟨rfl, al2g _ _ _⟩
theorem entersRSh : ∀ args w, (callFunc 55 args).run Try.prog w = .ok (.enter 55 args) w := enters_of Try.func55 (by kernel_rfl) rfl
theorem sortSh_any {w : World} {base : Nat} {v : Value} {l : List (ByteArray × Sh)} (h : OwnR 112 5 encS w base v l) (hn : l.length < 4611686018427387904) : Calls Try.prog 54 #[v, .func (.func 55) #[] #[]] w fun e w' => e = .returned (.tuple #[]) ∧ ∃ d' : Array (ByteArray × Sh), Sort.PermIn 0 l.toArray.size l.toArray d' ∧ Sort.SortedIn (ltOf cfR) 0 l.toArray.size d' ∧ OwnR 112 5 encS w' base v d'.toList ∧ w.grownBy w' v.ownBlock := by
  by_cases he : l = []
  · subst he
    obtain ⟨ao, cap, rfl, _, _, hno, _⟩ := h.any encS_len
    refine (AnyF.slices_SortFunc_none Try.sortS ao cap _ w).mono ?_
    rintro e w' ⟨rfl, rfl⟩
    exact ⟨rfl, #[], ⟨rfl, fun _ _ => rfl, List.Perm.refl _⟩, fun i j _ _ hj => absurd hj (by simp), h, ⟨rfl, rfl, rfl, Nat.le_refl _, fun _ _ _ => rfl⟩⟩
  · obtain ⟨g, cap, rfl, hb, hg, hH, hback⟩ := h.sorts encS_len (by decide) he
    have hcon := AnyQ.slices_SortFunc Try.sortS 5 Try.isAgg112 Try.sizeOf112 encS encS_len encS_one cfR swoR 55 #[] g 0 cap l.toArray w entersRSh (fun _ _ _ _ x y => cmpSh x y _) hH hg (by simpa using hn)
    refine hcon.mono ?_
    rintro e w' ⟨rfl, d', n, os, hp, hs, rfl⟩
    have hz : d'.size = l.length := by simpa using hp.1
    exact ⟨rfl, d', hp, hs, (hback d' n os hz).1, (hback d' n os hz).2⟩
set_option maxHeartbeats 8000000 in
set_option maxRecDepth 20000 in
theorem risingSh_any {w : World} {b L : Nat} {m : ByteArray → Option Sh} (h : Mp Sh.val w b L m) (hL : L ≤ 2097152) : Calls Try.prog 46 #[.agg #[.map (some b)]] w fun e w' => ∃ v rows, e = .returned v ∧ RowsOf rows m ∧ rows.length ≤ L ∧ OwnR 112 5 encS w' w.heap.size v rows ∧ Below w.heap.size w w' := by
  obtain ⟨n, D, hnL, hown, hI⟩ := h.own
  have hbl := hown.lt
  have HI : Hid _ := ⟨hI⟩
  have hsz : Maps.size D ≤ n := hown.size_le
  have HSZ : Hid (Maps.size D ≤ L) := ⟨by omega⟩
  obtain ⟨B, hB⟩ : ∃ B, w.heap.size = B := ⟨_, rfl⟩
  have e1 : (w.alloc (.cells #[.map (some b)] 69)).heap.size = B + 1 := by rw [← hB]; simp
  have F0 : Below B w (w.alloc (.cells #[.map (some b)] 69)) := by rw [← hB]; exact (Below.refl _ _).alloc (Nat.le_refl _) _
  go_enter Try.func46, Try.ntmps46
  go_wp2_with (at_range; refine wpList_range_own _ rfl _ 67 rfl 9 87 law9 Try.underlying67 RV b n D rfl (hown.alloc _) ?_; intro w0 hrg0 hg0 hs0)
  go_frame
  rw [e1] at hrg0 hs0 ⊢
  have F1 : Hid (Below B w w0) := ⟨F0.grown hg0 (by omega) (fun j hj => by cases hj)⟩
  have hbB : b < B := by omega
  clear hown h hI hsz hbl F0
  go_loopw [3] (fun v wr => ∃ (left : Lit → Bool) (cnt : Nat) (ss : List (ByteArray × Sh)), wr.ranges Try.prog 9 RV b (B + 1) n D left cnt ∧ Hid (ss.length + cnt ≤ Maps.size D ∧ OwnR 112 5 encS wr (B + 2) v ss ∧ Coll m left ss ∧ Below B w wr ∧ B + 2 ≤ wr.heap.size)) (fun _ wr => wr.rangeLeft b (B + 1))
  case atStart => exact ⟨_, _, [], hrg0, ⟨by simp, OwnR.nil _ _, Coll.start HI.out, F1.out, by omega⟩⟩
  case round =>
    obtain ⟨left, cnt, ss, hrg, HW⟩ := hrel
    go_wp2_with (at_next; refine wpList_next_ranges _ rfl _ rfl 9 law9 RV (fun t : ByteArray => Value.string t) (fun c : Value => c) (fun key q hk => by obtain ⟨x, hx, _⟩ := Maps.keyOf_str Try.underlying9 hk; exact ⟨⟨x.toArray⟩, hx⟩) (fun c y _ => ⟨c, rfl⟩) b (B + 1) n _ _ _ rfl hrg ?_ ?_)
    · intro hc0 hl0
      have HS : Hid _ := ⟨sortSh_any HW.out.2.1 (by have := HW.out.1; have := HSZ.out; omega)⟩
      go_wp2_with (go_at_call 54; refine HS.out.mono ?_; rintro e w4 ⟨rfl, d', hp, hs, hown4, hg4⟩)
      go_ret
      obtain ⟨hR, hlen⟩ := rowsOf_sorted HW.out.2.2.1 hl0 hp hs
      have hbs := HW.out.2.1
      refine ⟨_, d'.toList, rfl, hR, by have := HW.out.1; have := HSZ.out; simp; omega, ?_, ?_⟩
      · have : B ≤ B + 2 := by omega
        first | exact ownR_base hown4 this | (rw [hB]; exact ownR_base hown4 this)
      · have := HW.out.2.2.2.1.grown hg4 (by have := HW.out.2.2.2.2; omega) (fun j hj => by have := (hbs.lt j hj).1; omega)
        first | exact this | (rw [hB]; exact this)
    · intro t c q yd yp w2 cnt2 hkey hlk hv hat hrg2 hlt hg2 hs2 hen
      obtain ⟨rfl, htz⟩ := key_is hkey
      have hyd : yd = .held c := (congrArg Prod.fst (Option.some.inj hv)).symm
      subst hyd
      obtain ⟨u, hu, rfl, hC2⟩ := Coll.step HI.out HW.out.2.2.1 hlk hat
      have hbs := HW.out.2.1
      have hnr : u3.ownBlock ≠ some (B + 1) := fun e => by have := (hbs.lt _ e).1; omega
      have HC : Hid _ := ⟨hC2⟩
      have HO : Hid (OwnR 112 5 encS w2 (B + 2) u3 ss) := ⟨hbs.kept hg2 (Or.inr hnr)⟩
      have HB : Hid (Below B w w2) := ⟨HW.out.2.2.2.1.grown hg2 (by have := HW.out.2.2.2.2; omega) (fun j hj => by cases hj; omega)⟩
      have hz2 : B + 2 ≤ w2.heap.size := by have := HW.out.2.2.2.2; omega
      have hln : ss.length + 1 ≤ 2097152 := by have := HW.out.1; have := HSZ.out; omega
      have hcn : ss.length + 1 + cnt2 ≤ Maps.size D := by have := HW.out.1; omega
      clear hs2 hbs hC2 hat hv hkey
      obtain ⟨u0, u1, u2, uu3⟩ := u
      dsimp only [Sh.val] at *
      have HO2 : Hid (OwnR 112 5 encS (w2.alloc (.cells #[.int .i64 u0 , .int .i64 u1 , .bool u2 , .bool uu3] 87)) (B + 2) u3 ss) := ⟨World.ownsRow.alloc HO.out _⟩
      have HB2 : Hid (Below B w (w2.alloc (.cells #[.int .i64 u0 , .int .i64 u1 , .bool u2 , .bool uu3] 87))) := ⟨HB.out.alloc (by omega) _⟩
      have hrg3 := hrg2.alloc (.cells #[.int .i64 u0 , .int .i64 u1 , .bool u2 , .bool uu3] 87)
      have HRG : Hid _ := ⟨hrg3⟩
      clear hrg3 hrg2
      go_wp2_with (at_builtin; refine append_R rfl _ _ 99 (.agg (encS (ByteArray.empty, Sh.zero)).toArray) 40 rfl Try.underlying99 infoSh (by kernel_rfl) (by decide) encS_len encS_one rfl HO2.out (t, ⟨u0, u1, u2, uu3⟩) rfl (by simp) rfl (by unfold maxLen; omega) (by omega) (by simp; omega) ?_; intro v1 w5 hr5 hs5; go_frame)
      have hg5 := hs5.grow
      have hrow2 := HO2.out
      have hrg5 := HRG.out.kept hg5 (fun e => by have := (hrow2.lt _ e.symm).1; omega) (fun e => by have := (hrow2.lt _ e.symm).1; omega)
      go_roundw
      case rel =>
        exact ⟨_, cnt2, ss ++ [(t, ⟨u0, u1, u2, uu3⟩)], hrg5, ⟨by simp; omega, hr5, HC.out, HB2.out.grown hg5 (by simp; omega) (fun j hj => by have := (hrow2.lt _ hj).1; omega), by have := hg5.size; simp at this; omega⟩⟩
      case measure => rw [hrg5.left_eq, hrg.left_eq]; exact hlt
end Go.Proofs.Ytgoaegembijdcaa

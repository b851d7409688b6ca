/- Two; one. -/
import Derived.Test.YtljmbgflcidokaaGreatDoorXMap
namespace Go.Proofs.YtljmbgflcidokaaGreatDoor
open Go.ChangeShapes Go.WideShapes Go.ChangeAt Go.RowKit Go.Maps
set_option linter.unusedVariables false
set_option linter.unusedSimpArgs false

theorem zero82 (w : World) : (zeroValue 82).run Tryz.prog w = .ok (.agg #[.int .i64 0, .nilFunc]) w := by kernel_rfl
/-- A look-up whose answer is known, in a region that does not draw. -/
theorem wpList_look_held {ops : Array Oper} {rest : List Oper} {o : Oper} {a : Act} {w : World} {Q : Exit → Act → World → Prop} (hg : o.guard = none) (m x : Operand) (t : TypeId) (hop : o.op = Op.lookup t m x true)
    (e : TypeId) (ht : Tryz.prog.underlying t = some (.map 9 e)) {z : Value} (hz : (zeroValue e).run Tryz.prog w = .ok z w) (b n : Nat) (D : DataW Value)
    (hm : a.eval m = .map (some b)) (hown : w.ownsMap Tryz.prog 9 RV b n D) (s : ByteArray) (hx : a.eval x = .string s) (hs : s.size ≤ maxLen) (q : Bool) (u : Value) (hq : has D (kl s) = q) (hu : D.atKey (kl s) (.held z) = .held u)
    (hK : wpList Tryz.prog ops Q rest (a.put o.dst (.tuple #[u, .bool q])) w) :
    wpList Tryz.prog ops Q (o :: rest) a w :=
  wpList_lookup_own_ok w hg m x t hop 9 e law9 ht RV hz (.held z) [] rfl b n D hm hown (.string s) (kl s) hx (WideMaps.keyOf_string_mk Tryz.underlying9 hs) (fun v ps hv => by
    have : v = u := held_inj hv hu
    subst this
    rw [hq]
    exact hK)

/-- An operator, laid in a variable. -/
theorem store_fn (lv : Int) (fv : Value) (v : World) (g : Nat) (hg : g = v.heap.size) (hf : fv.oneCell' = true) : Sem.run Tryz.prog (store ⟨g, 1, none⟩ fv) (v.alloc (.cells #[.int .i64 lv, .nilFunc] 82)) = .ok () (v.alloc (.cells #[.int .i64 lv, fv] 82)) := by
  subst hg
  have hc : (v.alloc (.cells #[.int .i64 lv, .nilFunc] 82)).cell? ⟨v.heap.size, 1, none⟩ = some .nilFunc := by simp
  have hz : (v.alloc (.cells #[.int .i64 lv, .nilFunc] 82)).frozen? ⟨v.heap.size, 1, none⟩ = false := by
    simp only [World.frozen?]
    rw [heap_alloc_new]
    rfl
  rw [run_store Tryz.prog _ _ _ _ hf, hc]
  simp only [hz]
  rw [World.setCell_alloc_new]
  rfl
theorem operators_at (w : World) (mb : Nat) (h : mb = w.heap.size) : Calls Tryz.prog 29 #[] w fun e w' => e = .returned (.map (some mb)) ∧ OpM w' mb ∧ Below w.heap.size w w' ∧ w'.heap.size = mb + 8 := by
  subst h
  refine (operators_any w).mono ?_
  rintro e w' ⟨rfl, hO⟩
  exact ⟨rfl, hO.all, hO.bel, by have := hO.sz; omega⟩

set_option maxHeartbeats 2000000 in
theorem two_any (s : List UInt8) (hs : s.length ≤ 140737488355328) (a b : Vx) (ha : a.Ok) (hb : b.Ok) (w : World) : Calls Tryz.prog 19 #[.string (St s), .agg #[.string a.p, .string a.m, .int .i64 a.n], .agg #[.string b.p, .string b.m, .int .i64 b.n]] w fun e w' => e = .returned (vE (twoV s a b)) ∧ Below w.heap.size w w' := by
  have HO : Hid _ := ⟨operators_at⟩
  have hsz : (St s).size ≤ maxLen := by rw [St_size]; unfold maxLen; omega
  obtain ⟨M, hM⟩ : ∃ M, twoV s a b = M := ⟨_, rfl⟩
  cases hop : opOf s with
  | none =>
    have e0 : M = none := by rw [← hM]; unfold twoV; rw [hop]
    rw [hM]
    subst e0
    rw [vE_none]
    obtain ⟨p, m, n⟩ := a
    obtain ⟨q, k, i⟩ := b
    simp only
    clear hM ha hb
    have V4 := (VB.at ((w.alloc (.cells #[.string p, .string m, .int .i64 n] 27)).alloc (.cells #[.string q, .string k, .int .i64 i] 27)) ⟨#[]⟩ ⟨#[]⟩ 0 (w.heap.size + 1 + 1) (by simp))
    have B0 : Below w.heap.size w (((w.alloc (.cells #[.string p, .string m, .int .i64 n] 27)).alloc (.cells #[.string q, .string k, .int .i64 i] 27)).alloc zV) := bel_alloc (bel_alloc (bel_alloc (Below.refl _ _) _) _) _
    go_enter Tryz.func19, Tryz.ntmps19
    go_wp2_with (first
      | (go_at_call 29; (with_reducible refine (HO.out _ (w.heap.size + 1 + 1 + 1) (by simp)).mono ?_); rintro e w1 ⟨rfl, hO, hb1, hs1⟩; obtain ⟨D, hD1, hD2⟩ := hO.own; have hq := look_none hD2 hop; have W4 := V4.bel hb1 V4.lt; have B1 := bel_trans B0 hb1; have HST := store_fn 0 .nilFunc w1 (w.heap.size + 1 + 1 + 1 + 8) (by omega) rfl; clear hO hb1)
      | (at_lookup; go_loud (refine wpList_look_held rfl _ _ 66 rfl 82 und66 (zero82 _) _ 9 D rfl hD1 (St s) rfl hsz false (.agg #[.int .i64 0, .nilFunc]) hq (by rw [atKey_of_not_has hq]) ?_); obtain ⟨f0, f1, f2, f3⟩ := id W4))
    refine bodyPost_ret (resV_Two _ _ (w.heap.size + 1 + 1) _ _ _ rfl ((W4.set _ _ _).alloc _)) rfl ⟨rfl, ?_⟩
    exact bel_alloc (((B1.setCell (by dsimp only; omega) _).setCell (by dsimp only; omega) _).setCell (by dsimp only; omega) _) _
  | some qq =>
    obtain ⟨j, hj, hsj, hqq⟩ := opOf_some hop
    have e0 : opG j a b = M := by rw [← hM, twoV_of hop hqq]
    rw [hM]
    clear hM hop hqq
    have HI : Hid (j < 9) := ⟨hj⟩
    have hHL : ∀ D, Inv D (opE (w.heap.size + 1 + 1 + 1) 9) → has D (kl (St s)) = true ∧ D.atKey (kl (St s)) (.held (.agg #[.int .i64 0, .nilFunc])) = .held (opV (w.heap.size + 1 + 1 + 1) j) := fun D h => look_some h hj hsj _
    have HL : Hid _ := ⟨hHL⟩
    have hFn : ∀ W, OpM W (w.heap.size + 1 + 1 + 1) → (j < 7 → Calls Tryz.prog 68 #[.agg #[.string a.p, .string a.m, .int .i64 a.n], .agg #[.string b.p, .string b.m, .int .i64 b.n], .pointer (some ⟨(w.heap.size + 1 + 1 + 1) + 1 + j, 0, none⟩)] W fun e w' => e = .returned (vE M) ∧ Below W.heap.size W w') ∧ (j = 7 → Calls Tryz.prog 15 #[.agg #[.string a.p, .string a.m, .int .i64 a.n], .agg #[.string b.p, .string b.m, .int .i64 b.n]] W fun e w' => e = .returned (vE M) ∧ Below W.heap.size W w') ∧ (j = 8 → Calls Tryz.prog 17 #[.agg #[.string a.p, .string a.m, .int .i64 a.n], .agg #[.string b.p, .string b.m, .int .i64 b.n]] W fun e w' => e = .returned (vE M) ∧ Below W.heap.size W w') := fun W hW =>
      ⟨fun h => by rw [← e0]; exact apply_num hW h a b, fun h => by subst h; rw [← e0]; exact add_any a b ha hb W, fun h => by subst h; rw [← e0]; exact sub_any a b ha hb W⟩
    have HF : Hid _ := ⟨hFn⟩
    clear hHL hFn e0 hsj
    obtain ⟨p, m, n⟩ := a
    obtain ⟨q, k, i⟩ := b
    simp only at HF ⊢
    clear ha hb
    obtain ⟨x1, x2, x3, x4, hx⟩ : ∃ x1 x2 x3 x4, vE M = .tuple #[.agg #[.string x1, .string x2, .int .i64 x3], .int .i64 x4] := by
      cases M with
      | none => exact ⟨_, _, _, _, vE_none⟩
      | some v => exact ⟨_, _, _, _, vE_some v.p v.m v.n⟩
    rw [hx] at HF ⊢
    clear hx
    have V2 := (VB.new w p m n).alloc (.cells #[.string q, .string k, .int .i64 i] 27) |>.alloc zV
    have V3 := (VB.at (w.alloc (.cells #[.string p, .string m, .int .i64 n] 27)) q k i (w.heap.size + 1) (by simp)).alloc zV
    have V4 := (VB.at ((w.alloc (.cells #[.string p, .string m, .int .i64 n] 27)).alloc (.cells #[.string q, .string k, .int .i64 i] 27)) ⟨#[]⟩ ⟨#[]⟩ 0 (w.heap.size + 1 + 1) (by simp))
    have B0 : Below w.heap.size w (((w.alloc (.cells #[.string p, .string m, .int .i64 n] 27)).alloc (.cells #[.string q, .string k, .int .i64 i] 27)).alloc zV) := bel_alloc (bel_alloc (bel_alloc (Below.refl _ _) _) _) _
    generalize hlv : ((opsL.getD j ([], 0, addV)).2.1 : Int) = lv at *
    have hov : opV (w.heap.size + 1 + 1 + 1) j = .agg #[.int .i64 lv, opF (w.heap.size + 1 + 1 + 1) j] := by rw [← hlv]; rfl
    rw [hov] at HL
    clear hov hlv
    have hj3 : j < 7 ∨ j = 7 ∨ j = 8 := by omega
    rcases hj3 with h7 | h7 | h7
    · have hof : opF (w.heap.size + 1 + 1 + 1) j = .func (.func 68) #[] #[.pointer (some ⟨w.heap.size + 1 + 1 + 1 + 1 + j, 0, none⟩)] := by unfold opF; simp [h7]
      rw [hof] at HL
      clear hof
      have H7 : Hid _ := ⟨h7⟩
      clear h7 hj hs
      go_enter Tryz.func19, Tryz.ntmps19
      go_wp2_with (first
        | (go_at_call 29; (with_reducible refine (HO.out _ (w.heap.size + 1 + 1 + 1) (by simp)).mono ?_); rintro e w1 ⟨rfl, hO, hb1, hs1⟩; obtain ⟨D, hD1, hD2⟩ := hO.own; obtain ⟨hq, hat⟩ := HL.out D hD2; have HST := store_fn lv (.func (.func 68) #[] #[.pointer (some ⟨w.heap.size + 1 + 1 + 1 + 1 + j, 0, none⟩)]) w1 (w.heap.size + 1 + 1 + 1 + 8) (by omega) rfl; have HS1 : Hid (OpM w1 (w.heap.size + 1 + 1 + 1) ∧ S4 w w1 p m n q k i ∧ w1.heap.size = w.heap.size + 1 + 1 + 1 + 8) := ⟨hO, S4.bel ⟨V2, V3, V4, B0⟩ hb1, hs1⟩; clear hO hb1 V2 V3 V4 B0)
        | (at_lookup; refine wpList_look_held rfl _ _ 66 rfl 82 und66 (zero82 _) _ 9 D rfl hD1 (St s) rfl hsz true _ hq hat ?_; have HS2 : Hid (OpM (w1.alloc (.cells #[.int .i64 lv, .func (.func 68) #[] #[.pointer (some ⟨w.heap.size + 1 + 1 + 1 + 1 + j, 0, none⟩)]] 82)) (w.heap.size + 1 + 1 + 1) ∧ S4 w (w1.alloc (.cells #[.int .i64 lv, .func (.func 68) #[] #[.pointer (some ⟨w.heap.size + 1 + 1 + 1 + 1 + j, 0, none⟩)]] 82)) p m n q k i) := ⟨HS1.out.1.turn ((Turn.refl (fun _ => False) _).alloc _) (fun _ e => e.elim), HS1.out.2.1.bel (bel_alloc (Below.refl _ _) _)⟩; obtain ⟨d0, d1, d2, _⟩ := HS2.out.2.1; obtain ⟨e0, e1, e2, _⟩ := HS2.out.2.2.1; clear hD1 hq hat hD2)
        | (go_at_call 68; (with_reducible refine ((HF.out _ HS2.out.1).1 H7.out).mono ?_); rintro e w3 ⟨rfl, hb3⟩; have HS3 : Hid _ := ⟨HS2.out.2.bel hb3⟩; obtain ⟨f0, f1, f2, f3⟩ := HS3.out.2.2.1))
      refine bodyPost_ret (resV_Two _ _ (w.heap.size + 1 + 1) _ _ _ rfl (HS3.out.2.2.1.set _ _ _)) rfl ⟨rfl, ?_⟩
      exact ((HS3.out.2.2.2.setCell (by dsimp only; omega) _).setCell (by dsimp only; omega) _).setCell (by dsimp only; omega) _
    · have hof : opF (w.heap.size + 1 + 1 + 1) j = .func (.func 15) #[] #[] := by unfold opF; simp [h7]
      rw [hof] at HL
      clear hof
      have H7 : Hid _ := ⟨h7⟩
      clear h7 hj hs
      go_enter Tryz.func19, Tryz.ntmps19
      go_wp2_with (first
        | (go_at_call 29; (with_reducible refine (HO.out _ (w.heap.size + 1 + 1 + 1) (by simp)).mono ?_); rintro e w1 ⟨rfl, hO, hb1, hs1⟩; obtain ⟨D, hD1, hD2⟩ := hO.own; obtain ⟨hq, hat⟩ := HL.out D hD2; have HST := store_fn lv (.func (.func 15) #[] #[]) w1 (w.heap.size + 1 + 1 + 1 + 8) (by omega) rfl; have HS1 : Hid (OpM w1 (w.heap.size + 1 + 1 + 1) ∧ S4 w w1 p m n q k i ∧ w1.heap.size = w.heap.size + 1 + 1 + 1 + 8) := ⟨hO, S4.bel ⟨V2, V3, V4, B0⟩ hb1, hs1⟩; clear hO hb1 V2 V3 V4 B0)
        | (at_lookup; refine wpList_look_held rfl _ _ 66 rfl 82 und66 (zero82 _) _ 9 D rfl hD1 (St s) rfl hsz true _ hq hat ?_; have HS2 : Hid (OpM (w1.alloc (.cells #[.int .i64 lv, .func (.func 15) #[] #[]] 82)) (w.heap.size + 1 + 1 + 1) ∧ S4 w (w1.alloc (.cells #[.int .i64 lv, .func (.func 15) #[] #[]] 82)) p m n q k i) := ⟨HS1.out.1.turn ((Turn.refl (fun _ => False) _).alloc _) (fun _ e => e.elim), HS1.out.2.1.bel (bel_alloc (Below.refl _ _) _)⟩; obtain ⟨d0, d1, d2, _⟩ := HS2.out.2.1; obtain ⟨e0, e1, e2, _⟩ := HS2.out.2.2.1; clear hD1 hq hat hD2)
        | (go_at_call 15; (with_reducible refine ((HF.out _ HS2.out.1).2.1 H7.out).mono ?_); rintro e w3 ⟨rfl, hb3⟩; have HS3 : Hid _ := ⟨HS2.out.2.bel hb3⟩; obtain ⟨f0, f1, f2, f3⟩ := HS3.out.2.2.1))
      refine bodyPost_ret (resV_Two _ _ (w.heap.size + 1 + 1) _ _ _ rfl (HS3.out.2.2.1.set _ _ _)) rfl ⟨rfl, ?_⟩
      exact ((HS3.out.2.2.2.setCell (by dsimp only; omega) _).setCell (by dsimp only; omega) _).setCell (by dsimp only; omega) _
    · have hof : opF (w.heap.size + 1 + 1 + 1) j = .func (.func 17) #[] #[] := by unfold opF; simp [h7]
      rw [hof] at HL
      clear hof
      have H7 : Hid _ := ⟨h7⟩
      clear h7 hj hs
      go_enter Tryz.func19, Tryz.ntmps19
      go_wp2_with (first
        | (go_at_call 29; (with_reducible refine (HO.out _ (w.heap.size + 1 + 1 + 1) (by simp)).mono ?_); rintro e w1 ⟨rfl, hO, hb1, hs1⟩; obtain ⟨D, hD1, hD2⟩ := hO.own; obtain ⟨hq, hat⟩ := HL.out D hD2; have HST := store_fn lv (.func (.func 17) #[] #[]) w1 (w.heap.size + 1 + 1 + 1 + 8) (by omega) rfl; have HS1 : Hid (OpM w1 (w.heap.size + 1 + 1 + 1) ∧ S4 w w1 p m n q k i ∧ w1.heap.size = w.heap.size + 1 + 1 + 1 + 8) := ⟨hO, S4.bel ⟨V2, V3, V4, B0⟩ hb1, hs1⟩; clear hO hb1 V2 V3 V4 B0)
        | (at_lookup; refine wpList_look_held rfl _ _ 66 rfl 82 und66 (zero82 _) _ 9 D rfl hD1 (St s) rfl hsz true _ hq hat ?_; have HS2 : Hid (OpM (w1.alloc (.cells #[.int .i64 lv, .func (.func 17) #[] #[]] 82)) (w.heap.size + 1 + 1 + 1) ∧ S4 w (w1.alloc (.cells #[.int .i64 lv, .func (.func 17) #[] #[]] 82)) p m n q k i) := ⟨HS1.out.1.turn ((Turn.refl (fun _ => False) _).alloc _) (fun _ e => e.elim), HS1.out.2.1.bel (bel_alloc (Below.refl _ _) _)⟩; obtain ⟨d0, d1, d2, _⟩ := HS2.out.2.1; obtain ⟨e0, e1, e2, _⟩ := HS2.out.2.2.1; clear hD1 hq hat hD2)
        | (go_at_call 17; (with_reducible refine ((HF.out _ HS2.out.1).2.2 H7.out).mono ?_); rintro e w3 ⟨rfl, hb3⟩; have HS3 : Hid _ := ⟨HS2.out.2.bel hb3⟩; obtain ⟨f0, f1, f2, f3⟩ := HS3.out.2.2.1))
      refine bodyPost_ret (resV_Two _ _ (w.heap.size + 1 + 1) _ _ _ rfl (HS3.out.2.2.1.set _ _ _)) rfl ⟨rfl, ?_⟩
      exact ((HS3.out.2.2.2.setCell (by dsimp only; omega) _).setCell (by dsimp only; omega) _).setCell (by dsimp only; omega) _

theorem St_is (s t : List UInt8) : ((St s).toList == t) = decide (s = t) := by
  rw [ByteArray.toList_eq, show (St s).data.toList = s from rfl]
  by_cases h : s = t <;> simp [h]
/-- An operator of one. -/
theorem one_any (s : List UInt8) (v : Vx) (hv : v.Ok) (w : World) : Calls Tryz.prog 62 #[.string (St s), .agg #[.string v.p, .string v.m, .int .i64 v.n]] w fun e w' => e = .returned (vE (oneV s v)) ∧ Below w.heap.size w w' := by
  have HN : Hid _ := ⟨fun W => isNumber_any v.p v.m v.n W⟩
  have HS : Hid _ := ⟨fun W => sub_any Vx.zero v (Vx.Ok.num 0) hv W⟩
  have q1 := St_is s [45]
  have q2 := St_is s [126]
  obtain ⟨M, hM⟩ : ∃ M, oneV s v = M := ⟨_, rfl⟩
  rw [hM]
  unfold oneV at hM
  obtain ⟨p, m, n⟩ := v
  simp only at HN HS hM ⊢
  have V4 := (VB.at (w.alloc (.cells #[.string p, .string m, .int .i64 n] 27)) ⟨#[]⟩ ⟨#[]⟩ 0 (w.heap.size + 1) (by simp))
  have V3 := ((VB.new w p m n).alloc zV)
  have B0 : Below w.heap.size w ((w.alloc (.cells #[.string p, .string m, .int .i64 n] 27)).alloc zV) := bel_alloc (bel_alloc (Below.refl _ _) _) _
  by_cases h1 : s = [45]
  · rw [if_pos h1] at hM
    rw [decide_eq_true h1] at q1
    rw [hM] at HS
    obtain ⟨x1, x2, x3, x4, hx⟩ : ∃ x1 x2 x3 x4, vE M = .tuple #[.agg #[.string x1, .string x2, .int .i64 x3], .int .i64 x4] := by
      cases M with
      | none => exact ⟨_, _, _, _, vE_none⟩
      | some v => exact ⟨_, _, _, _, vE_some v.p v.m v.n⟩
    rw [hx] at HS ⊢
    clear hx hM h1 q2
    unfold Vx.zero es at HS
    simp only at HS
    go_enter Tryz.func62, Tryz.ntmps62
    go_wp2_with (go_at_call 17; (with_reducible refine (HS.out _).mono ?_); rintro e w1 ⟨rfl, hb1⟩; have W4 := V4.bel hb1 V4.lt; obtain ⟨f0, f1, f2, f3⟩ := id W4)
    refine bodyPost_ret (resV_one _ _ (w.heap.size + 1) _ _ _ rfl (W4.set _ _ _)) rfl ⟨rfl, ?_⟩
    exact (((bel_trans B0 hb1).setCell (by dsimp only; omega) _).setCell (by dsimp only; omega) _).setCell (by dsimp only; omega) _
  · rw [if_neg h1] at hM
    rw [decide_eq_false h1] at q1
    clear HS
    by_cases h2 : s = [126]
    · rw [if_pos h2] at hM
      rw [decide_eq_true h2] at q2
      cases h3 : sB p m
      · rw [h3, if_neg (by simp)] at hM
        rw [h3] at HN
        subst hM
        rw [vE_none]
        clear h1 h2 h3 hv
        go_enter Tryz.func62, Tryz.ntmps62
        go_wp2_with (go_at_call 69; (with_reducible refine (HN.out _).mono ?_); rintro e w1 ⟨rfl, hb1⟩; have W4 := V4.bel hb1 V4.lt; obtain ⟨f0, f1, f2, f3⟩ := id W4)
        refine bodyPost_ret (resV_one _ _ (w.heap.size + 1) _ _ _ rfl (W4.set _ _ _)) rfl ⟨rfl, ?_⟩
        exact (((bel_trans B0 hb1).setCell (by dsimp only; omega) _).setCell (by dsimp only; omega) _).setCell (by dsimp only; omega) _
      · rw [h3, if_pos rfl] at hM
        rw [h3] at HN
        subst hM
        unfold Vx.num
        rw [vE_some]
        clear h1 h2 h3 hv
        go_enter Tryz.func62, Tryz.ntmps62
        go_wp2_with (go_at_call 69; (with_reducible refine (HN.out _).mono ?_); rintro e w1 ⟨rfl, hb1⟩; have W4 := V4.bel hb1 V4.lt; obtain ⟨f0, f1, f2, f3⟩ := id W4; have W3 := V3.bel hb1 V3.lt; obtain ⟨d0, d1, d2, d3⟩ := id W3)
        refine bodyPost_ret (resV_one _ _ (w.heap.size + 1) _ _ _ rfl (W4.set _ _ _)) rfl ⟨rfl, ?_⟩
        exact (((bel_trans B0 hb1).setCell (by dsimp only; omega) _).setCell (by dsimp only; omega) _).setCell (by dsimp only; omega) _
    · rw [if_neg h2] at hM
      rw [decide_eq_false h2] at q2
      subst hM
      rw [vE_some]
      clear HN h1 h2 hv
      go_enter Tryz.func62, Tryz.ntmps62
      go_wp2
      refine bodyPost_ret (resV_one _ _ (w.heap.size + 1) _ _ _ rfl (VB.at _ _ _ _ _ (by simp))) rfl ⟨rfl, ?_⟩
      exact bel_alloc (bel_alloc (Below.refl _ _) _) _
end Go.Proofs.YtljmbgflcidokaaGreatDoor

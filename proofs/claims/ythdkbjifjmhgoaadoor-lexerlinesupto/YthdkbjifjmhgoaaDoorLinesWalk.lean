/- The walk of LexerLines. -/
import Derived.Test.YthdkbjifjmhgoaaDoorCutsWalk
namespace Go.Proofs.YthdkbjifjmhgoaaDoor
open Go.ChangeShapes Go.WideShapes Go.ChangeAt Go.RowKit
set_option linter.unusedVariables false
set_option linter.unusedSimpArgs false

theorem lo_app (a b : ByteArray) : lo (a ++ b) = lo a ++ lo b := by simp [lo]
theorem neq_tok (a b c : Int) (s : ByteArray) (w : World) : (binOp .neq 32 (.agg #[.int .i64 a, .int .i64 b, .int .i64 c, .string s]) (.agg #[.int .i64 a, .int .i64 b, .int .i64 c, .string s])).run Tryd.prog w = .ok (.bool false) w := by
  simp [go_sem]
/-- Where All is not too great, it is the cutting. -/
theorem all_of {l : List UInt8} (h : ¬ mE (allM l) = 6) : (linesM l).length ≤ 4000 ∧ allM l = match cutF (linesM l) 1 [] with | .error k => .error (k, 100) | .ok ts => .ok ts := by
  unfold allM at h ⊢
  split at h
  · exact absurd rfl h
  · rename_i h1
    rw [if_neg h1]
    split at h
    · exact absurd rfl h
    · rename_i h2
      rw [if_neg h2]
      exact ⟨by omega, rfl⟩
theorem lcut_line : ∀ (L : List (List UInt8)) (k : Nat) (acc ts : List TL), (∀ p ∈ acc, 0 ≤ p.2 ∧ p.2 ≤ k) → cutF L k acc = .ok ts → ∀ p ∈ ts, 0 ≤ p.2 ∧ p.2 ≤ k + L.length
  | [], k, acc, ts, ha, h => by
    cases h
    intro p hp
    have := ha p hp
    simp; omega
  | s :: L, k, acc, ts, ha, h => by
    simp only [cutF] at h
    cases hl : lineM s with
    | none => rw [hl] at h; cases h
    | some l =>
      rw [hl] at h
      intro p hp
      have := lcut_line L (k + 1) _ ts (fun q hq => by
        rcases List.mem_append.1 hq with hq | hq
        · have := ha q hq; omega
        · obtain ⟨t, _, rfl⟩ := List.mem_map.1 hq
          show (0 : Int) ≤ (k : Int) ∧ (k : Int) ≤ ((k + 1 : Nat) : Int)
          omega) h p hp
      simp only [List.length_cons]
      omega

theorem cut_err_le : ∀ (L : List (List UInt8)) (k : Nat) (acc : List TL) (m : Int), cutF L k acc = .error m → m ≤ k + L.length
  | [], k, acc, m, h => by cases h
  | s :: L, k, acc, m, h => by
    simp only [cutF] at h
    cases hs : lineM s with
    | none => rw [hs] at h; cases h; simp only [List.length_cons]; omega
    | some l =>
      rw [hs] at h
      have := cut_err_le L (k + 1) _ m h
      simp only [List.length_cons]
      omega
/-- What the three answers have to do with one another. -/
theorem lines_law (a b : List UInt8) (h1 : ¬ mE (allM (a ++ [10])) = 6) (h2 : ¬ mE (allM b) = 6) (h3 : ¬ mE (allM (a ++ 10 :: b)) = 6) :
    (mE (allM (a ++ [10])) = 100 ∧ mE (allM (a ++ 10 :: b)) = 100 ∧ mN (allM (a ++ 10 :: b)) = mN (allM (a ++ [10]))) ∨
    (mE (allM (a ++ [10])) = 0 ∧ mE (allM b) = 100 ∧ mE (allM (a ++ 10 :: b)) = 100 ∧ mN (allM (a ++ 10 :: b)) = mN (allM b) + ((linesM (a ++ [10])).length : Int) ∧ 0 ≤ mN (allM b) ∧ mN (allM b) ≤ 4001) ∨
    (mE (allM (a ++ [10])) = 0 ∧ mE (allM b) = 0 ∧ mE (allM (a ++ 10 :: b)) = 0 ∧ mL (allM (a ++ 10 :: b)) = mL (allM (a ++ [10])) ++ (mL (allM b)).map (shiftT ((linesM (a ++ [10])).length : Int)) ∧ ∀ p ∈ mL (allM b), 0 ≤ p.2 ∧ p.2 ≤ 4001) := by
  obtain ⟨_, e1⟩ := all_of h1
  obtain ⟨l2, e2⟩ := all_of h2
  obtain ⟨_, e3⟩ := all_of h3
  rw [e1, e2, e3, cut_two a b]
  cases hx : cutF (linesM (a ++ [10])) 1 [] with
  | error m => exact .inl ⟨rfl, rfl, rfl⟩
  | ok xs =>
    cases hy : cutF (linesM b) 1 [] with
    | error m => exact .inr (.inl ⟨rfl, rfl, rfl, rfl, by have := cut_err _ 1 [] _ (by omega) hy; show 0 ≤ m; omega, by have := cut_err_le _ _ _ _ hy; show m ≤ 4001; omega⟩)
    | ok ys =>
      refine .inr (.inr ⟨rfl, rfl, rfl, rfl, fun p hp => ?_⟩)
      have := lcut_line _ _ _ _ (fun q hq => by cases hq) hy p hp
      omega

set_option maxHeartbeats 16000000 in
set_option maxRecDepth 10000 in
theorem lexerLines_walk (HA : PAll) (a b : ByteArray) (w : World) (hE : Er w) (ha : a.size ≤ 8796093022205) (hb : b.size ≤ 8796093022205) :
    Calls Tryd.prog 6 #[.string a, .string b] w fun e w' => e = .returned (.bool true) ∧ Below w.heap.size w w' := by
  have op : ∀ (s : ByteArray) (l : List UInt8), lo s = l → ∀ W, Below w.heap.size w W → Calls Tryd.prog 9 #[.string s] W fun e w' => ∃ ao c, e = .returned (.tuple #[.slice ao (mL (allM l)).length c, .int .i64 (mN (allM l)), .int .i64 (mE (allM l))]) ∧ OwnTP w' W.heap.size (.slice ao (mL (allM l)).length c) (mL (allM l)) ∧ Below W.heap.size W w' := fun s l hs W hW => by
    have := (HA s W (hE.below hW hE.sz)).mono fun e w' h => AEndsP.open h
    rw [hs] at this
    exact this
  have HX : Hid _ := ⟨op (a ++ ⟨#[10]⟩) (lo a ++ [10]) (by rw [lo_app]; rfl)⟩
  have HY : Hid _ := ⟨op b (lo b) rfl⟩
  have HZ : Hid _ := ⟨op (a ++ ⟨#[10]⟩ ++ b) (lo a ++ 10 :: lo b) (by rw [lo_app, lo_app]; show lo a ++ [10] ++ lo b = _; simp)⟩
  have HR : Hid (∀ W, Calls Tryd.prog 19 #[.string (a ++ ⟨#[10]⟩)] W fun e w' => ∃ ao c, e = .returned (.slice ao (linesM (lo a ++ [10])).length c) ∧ Below W.heap.size W w') := ⟨fun W => by
    have h := rlines_any (a ++ ⟨#[10]⟩) W (by rw [ByteArray.size_append]; show a.size + 1 ≤ _; omega)
    rw [show lo (a ++ ⟨#[10]⟩) = lo a ++ [10] by rw [lo_app]; rfl] at h
    refine h.mono ?_
    rintro e w' ⟨v, rfl, ho, hb⟩
    obtain ⟨ao, c, rfl, _⟩ := OwnS.any ho
    rw [List.length_map]
    exact ⟨ao, c, rfl, hb⟩⟩
  have HL : Hid (∀ W, Below w.heap.size w W → Calls Tryd.prog 13 #[] W fun e w' => e = .returned (.bool true) ∧ Below W.heap.size W w') := ⟨fun W hW => live_any HA W (hE.below hW hE.sz)⟩
  have hlz := mL_len (lo a ++ 10 :: lo b)
  have hrl : (linesM (lo a ++ [10])).length ≤ 8796093022208 := by
    have := (lines_all (lo a ++ [10]) []).1
    rw [List.length_append, lo_len] at this
    simp at this
    have e : (linesM (lo a ++ [10])) = linesF (lo a ++ [10]) [] := rfl
    rw [e]; omega
  have LW := lines_law (lo a) (lo b)
  generalize linesM (lo a ++ [10]) = LS at *
  generalize allM (lo a ++ [10]) = X at *
  generalize allM (lo b) = Y at *
  generalize allM (lo a ++ 10 :: lo b) = Z at *
  generalize hLx : mL X = xs at *
  generalize hLy : mL Y = ys at *
  generalize hLz : mL Z = zs at *
  generalize hNx : mN X = nx at *
  generalize hNy : mN Y = ny at *
  generalize hNz : mN Z = nz at *
  generalize hEx : mE X = ex at *
  generalize hEy : mE Y = ey at *
  generalize hEz : mE Z = ez at *
  have tk1 : True := trivial
  have tk2 : True := trivial
  clear op HA hLx hLy hLz hNx hNy hNz hEx hEy hEz
  cases q1 : (ex == 6)
  · cases q2 : (ey == 6)
    · cases q3 : (ez == 6)
      · rcases LW (by simpa using q1) (by simpa using q2) (by simpa using q3) with ⟨rfl, rfl, rfl⟩ | ⟨rfl, rfl, rfl, h, hy0, hy1⟩ | ⟨rfl, rfl, rfl, h, hp⟩
        · clear LW q1 q3
          have qn : (nz == nz) = true := by simp
          go_enter Tryd.func6, Tryd.ntmps6
          go_wp2_with (first
            | (go_at_call 9; have _t := tk1; (with_reducible refine (HX.out _ (Below.refl _ _)).mono ?_); rintro e w1 ⟨ax, cx, rfl, ox, hb1⟩; clear tk1 _t)
            | (go_at_call 9; have _t := tk2; (with_reducible refine (HY.out _ hb1).mono ?_); rintro e w2 ⟨ay, cy, rfl, oy, hb2⟩; have B2 := hb1.trans (hb2.mono hb1.size); clear tk2 _t)
            | (go_at_call 9; (with_reducible refine (HZ.out _ B2).mono ?_); rintro e w3 ⟨az, cz, rfl, oz, hb3⟩; have B3 := B2.trans (hb3.mono B2.size))
            | (go_at_call 19; (with_reducible refine (HR.out _).mono ?_); rintro e w4 ⟨al, cl, rfl, hb4⟩; have B4 := B3.trans (hb4.mono B3.size); have HB4 : Hid _ := ⟨B4⟩; have HOX : Hid _ := ⟨(OwnTP.bel (OwnTP.bel (OwnTP.bel ox hb2) hb3) hb4).toks⟩; have HOY : Hid _ := ⟨(OwnTP.bel (OwnTP.bel oy hb3) hb4).toks⟩; have HOZ : Hid _ := ⟨(OwnTP.bel oz hb4).toks⟩; clear ox oy oz B2 B3 B4 hb1 hb2 hb3 hb4)
            | (go_at_call 12; refine (num_any _ _).mono ?_; rintro e w' ⟨rfl, hw'⟩; subst w')
            | (go_at_call 13; (with_reducible refine (HL.out _ HB4.out).mono ?_); rintro e w5 ⟨rfl, hb5⟩))
          go_ret
          exact ⟨rfl, HB4.out.trans (hb5.mono HB4.out.size)⟩
        · have qn : (nz == ny + (LS.length : Int)) = true := by rw [h]; simp
          have hwn : IntKind.i64.wrap (ny + (LS.length : Int)) = ny + (LS.length : Int) := by rw [IntKind.wrap_i64]; omega
          clear LW q1 q2 q3
          have HH : Hid _ := ⟨h⟩
          clear h
          go_enter Tryd.func6, Tryd.ntmps6
          go_wp2_with (first
            | (go_at_call 9; have _t := tk1; (with_reducible refine (HX.out _ (Below.refl _ _)).mono ?_); rintro e w1 ⟨ax, cx, rfl, ox, hb1⟩; clear tk1 _t)
            | (go_at_call 9; have _t := tk2; (with_reducible refine (HY.out _ hb1).mono ?_); rintro e w2 ⟨ay, cy, rfl, oy, hb2⟩; have B2 := hb1.trans (hb2.mono hb1.size); clear tk2 _t)
            | (go_at_call 9; (with_reducible refine (HZ.out _ B2).mono ?_); rintro e w3 ⟨az, cz, rfl, oz, hb3⟩; have B3 := B2.trans (hb3.mono B2.size))
            | (go_at_call 19; (with_reducible refine (HR.out _).mono ?_); rintro e w4 ⟨al, cl, rfl, hb4⟩; have B4 := B3.trans (hb4.mono B3.size); have HB4 : Hid _ := ⟨B4⟩; have HOX : Hid _ := ⟨(OwnTP.bel (OwnTP.bel (OwnTP.bel ox hb2) hb3) hb4).toks⟩; have HOY : Hid _ := ⟨(OwnTP.bel (OwnTP.bel oy hb3) hb4).toks⟩; have HOZ : Hid _ := ⟨(OwnTP.bel oz hb4).toks⟩; clear ox oy oz B2 B3 B4 hb1 hb2 hb3 hb4)
            | (go_at_call 12; refine (num_any _ _).mono ?_; rintro e w' ⟨rfl, hw'⟩; subst w')
            | (go_at_call 13; (with_reducible refine (HL.out _ HB4.out).mono ?_); rintro e w5 ⟨rfl, hb5⟩))
          go_ret
          exact ⟨rfl, HB4.out.trans (hb5.mono HB4.out.size)⟩
        · clear LW q1 q2 q3
          have hzl : zs.length = xs.length + ys.length := by rw [h, List.length_append, List.length_map]
          have HZL : Hid _ := ⟨hzl⟩
          have HH : Hid _ := ⟨h⟩
          have HPP : Hid _ := ⟨hp⟩
          have hws : IntKind.i64.wrap ((xs.length : Int) + (ys.length : Int)) = (xs.length : Int) + (ys.length : Int) := by rw [IntKind.wrap_i64]; omega
          have qz : ((zs.length : Int) != (xs.length : Int) + (ys.length : Int)) = false := by rw [bne_eq_false_iff_eq]; omega
          clear h hp hzl
          go_enter Tryd.func6, Tryd.ntmps6
          go_wp2_with (first
            | (go_at_call 9; have _t := tk1; (with_reducible refine (HX.out _ (Below.refl _ _)).mono ?_); rintro e w1 ⟨ax, cx, rfl, ox, hb1⟩; clear tk1 _t)
            | (go_at_call 9; have _t := tk2; (with_reducible refine (HY.out _ hb1).mono ?_); rintro e w2 ⟨ay, cy, rfl, oy, hb2⟩; have B2 := hb1.trans (hb2.mono hb1.size); clear tk2 _t)
            | (go_at_call 9; (with_reducible refine (HZ.out _ B2).mono ?_); rintro e w3 ⟨az, cz, rfl, oz, hb3⟩; have B3 := B2.trans (hb3.mono B2.size))
            | (go_at_call 19; (with_reducible refine (HR.out _).mono ?_); rintro e w4 ⟨al, cl, rfl, hb4⟩; have B4 := B3.trans (hb4.mono B3.size); have HB4 : Hid _ := ⟨B4⟩; have HOX : Hid _ := ⟨(OwnTP.bel (OwnTP.bel (OwnTP.bel ox hb2) hb3) hb4).toks⟩; have HOY : Hid _ := ⟨(OwnTP.bel (OwnTP.bel oy hb3) hb4).toks⟩; have HOZ : Hid _ := ⟨(OwnTP.bel oz hb4).toks⟩; clear ox oy oz B2 B3 B4 hb1 hb2 hb3 hb4)
            | (go_at_call 12; refine (num_any _ _).mono ?_; rintro e w' ⟨rfl, hw'⟩; subst w')
            | (go_at_call 13; (with_reducible refine (HL.out _ HB4.out).mono ?_); rintro e w5 ⟨rfl, hb5⟩))
          go_loopw [15] (fun i wr => ∃ k : Nat, k ≤ zs.length ∧ i = .int .i64 k ∧ Hid (Below w4.heap.size w4 wr)) (fun i _ => zs.length - (intOf i).toNat)
          case atStart => exact ⟨0, by omega, rfl, ⟨Below.refl _ _⟩⟩
          case round =>
            obtain ⟨k, hk, rfl, HB⟩ := hrel
            by_cases hlt : k < zs.length
            · have hlti : (k : Int) < (zs.length : Int) := by omega
              have hk0 : (0 : Int) ≤ (k : Int) := by omega
              obtain ⟨bz, fz, rfl, hcz⟩ : ∃ b off, az = some ⟨b, off, none⟩ ∧ ∀ i, i < zs.length → TokAt wr b (off + i * 4) (zs.getD i TL.none) := by
                rcases HOZ.out.below HB.out (Nat.le_refl _) with h | h
                · rw [h] at hlt; simp at hlt
                · exact h
              obtain ⟨z0, z1, z2, z3⟩ := hcz k hlt
              by_cases hx : k < xs.length
              · have hxi : (k : Int) < (xs.length : Int) := by omega
                obtain ⟨bx, fx, rfl, hcx⟩ : ∃ b off, ax = some ⟨b, off, none⟩ ∧ ∀ i, i < xs.length → TokAt wr b (off + i * 4) (xs.getD i TL.none) := by
                  rcases HOX.out.below HB.out (Nat.le_refl _) with h | h
                  · rw [h] at hx; simp at hx
                  · exact h
                obtain ⟨x0, x1, x2, x3⟩ := hcx k hx
                have he : zs.getD k TL.none = xs.getD k TL.none := by
                  rw [HH.out, List.getD_eq_getElem?_getD, List.getD_eq_getElem?_getD, List.getElem?_append_left hx]
                rw [he] at z0 z1 z2 z3
                generalize xs.getD k TL.none = p at *
                obtain ⟨⟨pk, pn, pt⟩, pl⟩ := p
                dsimp only at x0 x1 x2 x3 z0 z1 z2 z3
                generalize St pt = sx at *
                have hneq := neq_tok pk pl pn sx
                have hbl : bz < wr.heap.size := World.block_lt_of_cell? wr _ z0
                have hbn : ¬ bz = wr.heap.size := by omega
                have hxl := World.block_lt_of_cell? wr _ x0
                have hxn : ¬ bx = wr.heap.size := by dsimp only at hxl; omega
                have D0 : (wr.alloc (.cells #[.int .i64 pk, .int .i64 pl, .int .i64 pn, .string sx] 32)).cell? ⟨bz, fz + k * 4, none⟩ = some (.int .i64 pk) := ((Below.refl wr.heap.size wr).alloc (Nat.le_refl _) (.cells #[.int .i64 pk, .int .i64 pl, .int .i64 pn, .string sx] 32) |>.cell (p := ⟨bz, fz + k * 4, none⟩) hbl).trans z0
                have D1 : (wr.alloc (.cells #[.int .i64 pk, .int .i64 pl, .int .i64 pn, .string sx] 32)).cell? ⟨bz, fz + k * 4 + 1, none⟩ = some (.int .i64 pl) := ((Below.refl wr.heap.size wr).alloc (Nat.le_refl _) (.cells #[.int .i64 pk, .int .i64 pl, .int .i64 pn, .string sx] 32) |>.cell (p := ⟨bz, fz + k * 4 + 1, none⟩) hbl).trans z1
                have D2 : (wr.alloc (.cells #[.int .i64 pk, .int .i64 pl, .int .i64 pn, .string sx] 32)).cell? ⟨bz, fz + k * 4 + 2, none⟩ = some (.int .i64 pn) := ((Below.refl wr.heap.size wr).alloc (Nat.le_refl _) (.cells #[.int .i64 pk, .int .i64 pl, .int .i64 pn, .string sx] 32) |>.cell (p := ⟨bz, fz + k * 4 + 2, none⟩) hbl).trans z2
                have D3 : (wr.alloc (.cells #[.int .i64 pk, .int .i64 pl, .int .i64 pn, .string sx] 32)).cell? ⟨bz, fz + k * 4 + 3, none⟩ = some (.string sx) := ((Below.refl wr.heap.size wr).alloc (Nat.le_refl _) (.cells #[.int .i64 pk, .int .i64 pl, .int .i64 pn, .string sx] 32) |>.cell (p := ⟨bz, fz + k * 4 + 3, none⟩) hbl).trans z3
                clear hcz hcx he
                go_wp2
                go_quiet (fail)
                go_wp2
                go_roundw
                case rel => exact ⟨k + 1, hlt, by go_num, ⟨below_drewN (HB.out.alloc HB.out.size _) _⟩⟩
                case measure => simp [intOf]; omega
              · have hxi : ¬ (k : Int) < (xs.length : Int) := by omega
                obtain ⟨j, rfl⟩ : ∃ j, k = xs.length + j := ⟨k - xs.length, by omega⟩
                have hj : j < ys.length := by have := HZL.out; omega
                obtain ⟨by', fy, rfl, hcy⟩ : ∃ b off, ay = some ⟨b, off, none⟩ ∧ ∀ i, i < ys.length → TokAt wr b (off + i * 4) (ys.getD i TL.none) := by
                  rcases HOY.out.below HB.out (Nat.le_refl _) with h | h
                  · rw [h] at hj; simp at hj
                  · exact h
                obtain ⟨x0, x1, x2, x3⟩ := hcy j hj
                have he : zs.getD (xs.length + j) TL.none = shiftT (LS.length : Int) (ys.getD j TL.none) := by
                  rw [HH.out, List.getD_eq_getElem?_getD, List.getElem?_append_right (by omega), Nat.add_sub_cancel_left, List.getElem?_map, List.getD_eq_getElem?_getD]
                  simp [hj]
                rw [he] at z0 z1 z2 z3
                have hpl := HPP.out (ys.getD j TL.none) (by
                  have : ys.getD j TL.none = ys[j] := by simp [hj]
                  rw [this]; exact List.getElem_mem hj)
                generalize ys.getD j TL.none = p at *
                obtain ⟨⟨pk, pn, pt⟩, pl⟩ := p
                dsimp only [shiftT] at x0 x1 x2 x3 z0 z1 z2 z3 hpl
                generalize St pt = sx at *
                have hneq := neq_tok pk (pl + (LS.length : Int)) pn sx
                have hbl : bz < wr.heap.size := World.block_lt_of_cell? wr _ z0
                have hbn : ¬ bz = wr.heap.size := by omega
                have hxl := World.block_lt_of_cell? wr _ x0
                have hxn : ¬ by' = wr.heap.size := by dsimp only at hxl; omega
                have hji : (j : Int) < (ys.length : Int) := by omega
                have hj0 : (0 : Int) ≤ (j : Int) := by omega
                have hsub : ((xs.length + j : Nat) : Int) - (xs.length : Int) = (j : Int) := by omega
                have hsub2 : (xs.length : Int) + (j : Int) - (xs.length : Int) = (j : Int) := by omega
                have hwl : IntKind.i64.wrap (pl + (LS.length : Int)) = pl + (LS.length : Int) := by rw [IntKind.wrap_i64]; omega
                have D0 : (wr.alloc (.cells #[.int .i64 pk, .int .i64 (pl + (LS.length : Int)), .int .i64 pn, .string sx] 32)).cell? ⟨bz, fz + (xs.length + j) * 4, none⟩ = some (.int .i64 pk) := ((Below.refl wr.heap.size wr).alloc (Nat.le_refl _) (.cells #[.int .i64 pk, .int .i64 (pl + (LS.length : Int)), .int .i64 pn, .string sx] 32) |>.cell (p := ⟨bz, fz + (xs.length + j) * 4, none⟩) hbl).trans z0
                have D1 : (wr.alloc (.cells #[.int .i64 pk, .int .i64 (pl + (LS.length : Int)), .int .i64 pn, .string sx] 32)).cell? ⟨bz, fz + (xs.length + j) * 4 + 1, none⟩ = some (.int .i64 (pl + (LS.length : Int))) := ((Below.refl wr.heap.size wr).alloc (Nat.le_refl _) (.cells #[.int .i64 pk, .int .i64 (pl + (LS.length : Int)), .int .i64 pn, .string sx] 32) |>.cell (p := ⟨bz, fz + (xs.length + j) * 4 + 1, none⟩) hbl).trans z1
                have D2 : (wr.alloc (.cells #[.int .i64 pk, .int .i64 (pl + (LS.length : Int)), .int .i64 pn, .string sx] 32)).cell? ⟨bz, fz + (xs.length + j) * 4 + 2, none⟩ = some (.int .i64 pn) := ((Below.refl wr.heap.size wr).alloc (Nat.le_refl _) (.cells #[.int .i64 pk, .int .i64 (pl + (LS.length : Int)), .int .i64 pn, .string sx] 32) |>.cell (p := ⟨bz, fz + (xs.length + j) * 4 + 2, none⟩) hbl).trans z2
                have D3 : (wr.alloc (.cells #[.int .i64 pk, .int .i64 (pl + (LS.length : Int)), .int .i64 pn, .string sx] 32)).cell? ⟨bz, fz + (xs.length + j) * 4 + 3, none⟩ = some (.string sx) := ((Below.refl wr.heap.size wr).alloc (Nat.le_refl _) (.cells #[.int .i64 pk, .int .i64 (pl + (LS.length : Int)), .int .i64 pn, .string sx] 32) |>.cell (p := ⟨bz, fz + (xs.length + j) * 4 + 3, none⟩) hbl).trans z3
                clear hcz hcy he
                go_wp2
                go_quiet (fail)
                go_wp2
                go_roundw
                case rel => exact ⟨xs.length + j + 1, hlt, by go_num, ⟨below_drewN (HB.out.alloc HB.out.size _) _⟩⟩
                case measure => simp [intOf]; omega
            · obtain rfl : k = zs.length := by omega
              go_wp2_with (go_at_call 13; (with_reducible refine (HL.out _ (HB4.out.trans (HB.out.mono HB4.out.size))).mono ?_); rintro e w5 ⟨rfl, hb5⟩)
              go_ret
              have B5 := HB4.out.trans (HB.out.mono HB4.out.size)
              exact ⟨rfl, B5.trans (hb5.mono B5.size)⟩
      · clear LW
        go_enter Tryd.func6, Tryd.ntmps6
        go_wp2_with (first
          | (go_at_call 9; have _t := tk1; (with_reducible refine (HX.out _ (Below.refl _ _)).mono ?_); rintro e w1 ⟨ax, cx, rfl, ox, hb1⟩; clear tk1 _t)
          | (go_at_call 9; have _t := tk2; (with_reducible refine (HY.out _ hb1).mono ?_); rintro e w2 ⟨ay, cy, rfl, oy, hb2⟩; have B2 := hb1.trans (hb2.mono hb1.size); clear tk2 _t)
          | (go_at_call 9; (with_reducible refine (HZ.out _ B2).mono ?_); rintro e w3 ⟨az, cz, rfl, oz, hb3⟩; have B3 := B2.trans (hb3.mono B2.size))
          | (go_at_call 19; (with_reducible refine (HR.out _).mono ?_); rintro e w4 ⟨al, cl, rfl, hb4⟩; have B4 := B3.trans (hb4.mono B3.size); have HB4 : Hid _ := ⟨B4⟩; have HOX : Hid _ := ⟨(OwnTP.bel (OwnTP.bel (OwnTP.bel ox hb2) hb3) hb4).toks⟩; have HOY : Hid _ := ⟨(OwnTP.bel (OwnTP.bel oy hb3) hb4).toks⟩; have HOZ : Hid _ := ⟨(OwnTP.bel oz hb4).toks⟩; clear ox oy oz B2 B3 B4 hb1 hb2 hb3 hb4)
          | (go_at_call 12; refine (num_any _ _).mono ?_; rintro e w' ⟨rfl, hw'⟩; subst w')
          | (go_at_call 13; (with_reducible refine (HL.out _ HB4.out).mono ?_); rintro e w5 ⟨rfl, hb5⟩))
        go_ret
        exact ⟨rfl, HB4.out.trans (hb5.mono HB4.out.size)⟩
    · clear LW
      go_enter Tryd.func6, Tryd.ntmps6
      go_wp2_with (first
        | (go_at_call 9; have _t := tk1; (with_reducible refine (HX.out _ (Below.refl _ _)).mono ?_); rintro e w1 ⟨ax, cx, rfl, ox, hb1⟩; clear tk1 _t)
        | (go_at_call 9; have _t := tk2; (with_reducible refine (HY.out _ hb1).mono ?_); rintro e w2 ⟨ay, cy, rfl, oy, hb2⟩; have B2 := hb1.trans (hb2.mono hb1.size); clear tk2 _t)
        | (go_at_call 9; (with_reducible refine (HZ.out _ B2).mono ?_); rintro e w3 ⟨az, cz, rfl, oz, hb3⟩; have B3 := B2.trans (hb3.mono B2.size))
        | (go_at_call 19; (with_reducible refine (HR.out _).mono ?_); rintro e w4 ⟨al, cl, rfl, hb4⟩; have B4 := B3.trans (hb4.mono B3.size); have HB4 : Hid _ := ⟨B4⟩; have HOX : Hid _ := ⟨(OwnTP.bel (OwnTP.bel (OwnTP.bel ox hb2) hb3) hb4).toks⟩; have HOY : Hid _ := ⟨(OwnTP.bel (OwnTP.bel oy hb3) hb4).toks⟩; have HOZ : Hid _ := ⟨(OwnTP.bel oz hb4).toks⟩; clear ox oy oz B2 B3 B4 hb1 hb2 hb3 hb4)
        | (go_at_call 12; refine (num_any _ _).mono ?_; rintro e w' ⟨rfl, hw'⟩; subst w')
        | (go_at_call 13; (with_reducible refine (HL.out _ HB4.out).mono ?_); rintro e w5 ⟨rfl, hb5⟩))
      go_ret
      exact ⟨rfl, HB4.out.trans (hb5.mono HB4.out.size)⟩
  · clear LW
    go_enter Tryd.func6, Tryd.ntmps6
    go_wp2_with (first
      | (go_at_call 9; have _t := tk1; (with_reducible refine (HX.out _ (Below.refl _ _)).mono ?_); rintro e w1 ⟨ax, cx, rfl, ox, hb1⟩; clear tk1 _t)
      | (go_at_call 9; have _t := tk2; (with_reducible refine (HY.out _ hb1).mono ?_); rintro e w2 ⟨ay, cy, rfl, oy, hb2⟩; have B2 := hb1.trans (hb2.mono hb1.size); clear tk2 _t)
      | (go_at_call 9; (with_reducible refine (HZ.out _ B2).mono ?_); rintro e w3 ⟨az, cz, rfl, oz, hb3⟩; have B3 := B2.trans (hb3.mono B2.size))
      | (go_at_call 19; (with_reducible refine (HR.out _).mono ?_); rintro e w4 ⟨al, cl, rfl, hb4⟩; have B4 := B3.trans (hb4.mono B3.size); have HB4 : Hid _ := ⟨B4⟩; have HOX : Hid _ := ⟨(OwnTP.bel (OwnTP.bel (OwnTP.bel ox hb2) hb3) hb4).toks⟩; have HOY : Hid _ := ⟨(OwnTP.bel (OwnTP.bel oy hb3) hb4).toks⟩; have HOZ : Hid _ := ⟨(OwnTP.bel oz hb4).toks⟩; clear ox oy oz B2 B3 B4 hb1 hb2 hb3 hb4)
      | (go_at_call 12; refine (num_any _ _).mono ?_; rintro e w' ⟨rfl, hw'⟩; subst w')
      | (go_at_call 13; (with_reducible refine (HL.out _ HB4.out).mono ?_); rintro e w5 ⟨rfl, hb5⟩))
    go_ret
    exact ⟨rfl, HB4.out.trans (hb5.mono HB4.out.size)⟩
end Go.Proofs.YthdkbjifjmhgoaaDoor

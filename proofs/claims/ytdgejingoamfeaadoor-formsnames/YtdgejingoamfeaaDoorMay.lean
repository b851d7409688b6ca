/- The contracts on names: IndexByte, isName, placeOf. Operands that are compared; slices.Contains. The contracts on operands that may be: nameMayBe, indexMayBe, targetMayBe. -/
import Derived.Test.YtdgejingoamfeaaDoorSmall
import Derived.Lib.Bytealg
import Derived.Laws.StandIn
import Derived.Shelf.Slices.Turned
namespace Go.Proofs.YtdgejingoamfeaaDoor
open Go.ChangeShapes Go.WideShapes Go.ChangeAt Go.RowKit
open Go.ChangeShapes Go.WideShapes Go.ChangeAt Go.RowKit Go.Shelf
set_option linter.unusedVariables false

def barL : List UInt8 := [40, 41, 44, 64, 36, 37, 42, 35, 59, 58, 34, 39]
theorem bar_all : ∀ n : Fin 256, barL.contains (UInt8.ofNat n.val) = decide (0 ≤ Lib.indexByte barL (UInt8.ofNat n.val)) := by decide +kernel
theorem bar_eq (c : UInt8) : barL.contains c = decide (0 ≤ Lib.indexByte barL c) := by
  have h := bar_all ⟨c.toNat, c.toNat_lt⟩
  simpa using h

set_option maxRecDepth 100000 in
theorem indexByte_any (s : ByteArray) (c : Int) (w : World) :
    Calls Tryd.prog 102 #[.string s, .int .u8 c] w fun e w' => e = .returned (.int .i64 (Lib.indexByte s.data.toList c.toNat.toUInt8)) ∧ w' = w := by
  have R := Lib.run_indexByteString (P := Tryd.prog) s c w
  have K : Calls Tryd.prog 107 #[.string s, .int .u8 c] w fun e w' => e = .returned (.int .i64 (Lib.indexByte s.data.toList c.toNat.toUInt8)) ∧ w' = w := by
    go_enter Tryd.func107, Tryd.ntmps107
    go_wp2
    rw [run_callFunc_extern Tryd.func113 (by kernel_rfl) (by kernel_rfl) (by kernel_rfl) (e := Extern.BytealgIndexByte.indexByte) (by kernel_rfl), R]
    simp only [Result.andThen]
    rw [Oper.upon_value]
    go_wp2
    go_ret
    exact ⟨rfl, rfl⟩
  go_enter Tryd.func102, Tryd.ntmps102
  go_wp2_with (go_at_call 107; refine K.mono ?_; rintro e w1 ⟨rfl, hw⟩; subst w1)
  go_ret
  exact ⟨rfl, rfl⟩

/-- All bytes up to a place may be. -/
theorem all_take_succ (l : List UInt8) (k : Nat) (h : k < l.length) : (l.take (k + 1)).all byteB = ((l.take k).all byteB && byteB l[k]) := by
  rw [List.take_succ_eq_append_getElem h, List.all_append]
  simp

theorem isName_0 (s : ByteArray) (w : World) (h : s.size < 1 ∨ 255 < s.size) :
    Calls Tryd.prog 98 #[.string s] w fun e w' => e = .returned (.bool false) ∧ w' = w := by
  rcases h with h | h
  · go_enter Tryd.func98, Tryd.ntmps98
    go_wp2
    go_ret
    exact ⟨rfl, rfl⟩
  · have h1 : ¬ s.size < 1 := by omega
    go_enter Tryd.func98, Tryd.ntmps98
    go_wp2
    go_ret
    exact ⟨rfl, rfl⟩

theorem isName_1 (s : ByteArray) (w : World) (h : 1 ≤ s.size) (h' : s.size ≤ 255) :
    Calls Tryd.prog 98 #[.string s] w fun e w' => e = .returned (.bool (s.data.toList.all byteB)) ∧ w' = w := by
  have hl : s.data.toList.length = s.size := by simp
  obtain ⟨r, HR⟩ : ∃ r, Hid (s.data.toList.all byteB = r) := ⟨_, ⟨rfl⟩⟩
  rw [HR.out]
  go_enter Tryd.func98, Tryd.ntmps98
  go_wp2
  go_loop [14] (fun i => ∃ k : Nat, k ≤ s.size ∧ i = .int .i64 k ∧ Hid ((s.data.toList.take k).all byteB = true)) (fun i => s.size - (intOf i).toNat)
  case atStart => exact ⟨0, by omega, rfl, ⟨by simp⟩⟩
  case round =>
    obtain ⟨k, hk, rfl, hall⟩ := hrel
    by_cases hlt : k < s.size
    · have hget : s.data.toList[k]'(by omega) = s[k] := by rw [Array.getElem_toList]; rfl
      have hs := all_take_succ s.data.toList k (by omega)
      rw [hget, hall.out, Bool.true_and] at hs
      have hx : byteB s[k] = false → s.data.toList.all byteB = false := fun hb => by
        rw [List.all_eq_false]; exact ⟨s.data.toList[k]'(by omega), List.getElem_mem .., by rw [hget, hb]; simp⟩
      have hbar := bar_eq s[k]
      have hbyte : byteB s[k] = !(decide (s[k].toNat < 33) || decide (126 < s[k].toNat) || decide (0 ≤ Lib.indexByte barL s[k])) := by rw [← hbar]; rfl
      have HS : Hid (byteB s[k] = false → s.data.toList.all byteB = false) := ⟨hx⟩
      have HT : Hid ((s.data.toList.take (k + 1)).all byteB = byteB s[k]) := ⟨hs⟩
      have HI : ∃ ix, ix = Lib.indexByte barL s[k] ∧ ∀ v, Calls Tryd.prog 102 #[.string ⟨#[40, 41, 44, 64, 36, 37, 42, 35, 59, 58, 34, 39]⟩, .int .u8 (s[k].toNat : Int)] v fun e w' => e = .returned (.int .i64 ix) ∧ w' = v := ⟨_, rfl, fun v => by
        have := indexByte_any ⟨#[40, 41, 44, 64, 36, 37, 42, 35, 59, 58, 34, 39]⟩ (s[k].toNat : Int) v
        rw [show ((s[k].toNat : Int)).toNat.toUInt8 = s[k] by simp] at this; exact this⟩
      obtain ⟨ix, hix, HI⟩ := HI
      rw [← hix] at hbyte
      clear hx hs hbar hget hall hix
      by_cases g1 : s[k].toNat < 33
      · have hb : Hid (byteB s[k] = false) := ⟨by simp [hbyte, g1]⟩
        clear hbyte
        go_wp2
        go_ret
        exact ⟨ret_bool (HR.out ▸ (HS.out hb.out).symm), rfl⟩
      · by_cases g2 : 126 < s[k].toNat
        · have hb : Hid (byteB s[k] = false) := ⟨by simp [hbyte, g2]⟩
          clear hbyte
          go_wp2
          go_ret
          exact ⟨ret_bool (HR.out ▸ (HS.out hb.out).symm), rfl⟩
        · by_cases g3 : 0 ≤ ix
          · have hb : Hid (byteB s[k] = false) := ⟨by simp [hbyte, g3]⟩
            clear hbyte
            go_wp2_with (go_at_call 102; refine (HI _).mono ?_; rintro e w1 ⟨rfl, hw⟩; subst w1)
            go_ret
            exact ⟨ret_bool (HR.out ▸ (HS.out hb.out).symm), rfl⟩
          · have hb : Hid (byteB s[k] = true) := ⟨by rw [hbyte, decide_eq_false g1, decide_eq_false g2, decide_eq_false g3]; rfl⟩
            clear hbyte
            go_wp2_with (go_at_call 102; refine (HI _).mono ?_; rintro e w1 ⟨rfl, hw⟩; subst w1)
            go_round
            case rel => exact ⟨k + 1, hlt, by go_num, ⟨by rw [HT.out, hb.out]⟩⟩
            case measure => simp [intOf]; omega
    · have hk' : k = s.size := by omega
      subst hk'
      have he : Hid (s.data.toList.all byteB = true) := ⟨by
        have := hall.out
        rwa [List.take_of_length_le (by omega)] at this⟩
      go_wp2
      go_ret
      exact ⟨ret_bool (HR.out ▸ he.out.symm), rfl⟩

theorem isName_any (s : ByteArray) (w : World) :
    Calls Tryd.prog 98 #[.string s] w fun e w' => e = .returned (.bool (isNameB s)) ∧ w' = w := by
  have hl : s.data.toList.length = s.size := by simp
  by_cases h : s.size < 1 ∨ 255 < s.size
  · have e : isNameB s = false := by
      unfold isNameB; rw [hl]
      rcases h with h | h
      · simp [show ¬ 1 ≤ s.size by omega]
      · simp [show ¬ s.size ≤ 255 by omega]
    rw [e]; exact isName_0 s w h
  · have e : isNameB s = s.data.toList.all byteB := by
      unfold isNameB; rw [hl]
      simp [show 1 ≤ s.size by omega, show s.size ≤ 255 by omega]
    rw [e]; exact isName_1 s w (by omega) (by omega)

theorem fields_opd : Tryd.prog.underlying 23 = some (.struct (Tryd.prog.fieldsOf 23)) := by kernel_rfl
theorem held_opd : Tryd.prog.stoodInHeld 23 = false := by kernel_rfl

theorem fields_list : (Tryd.prog.fieldsOf 23).toList.map (fun f => (f.name == "_", f.type, f.offset)) =
    [(false, 3, 0), (false, 3, 1), (false, 3, 2), (false, 3, 3), (false, 3, 4), (false, 4, 5), (false, 4, 6), (false, 3, 7), (false, 9, 8), (false, 3, 9)] := by kernel_rfl

theorem eqStep {d : Nat} {xs ys : Array Value} {f : Field} {fs : List Field} {w : World} {a b : Value} {r s : Bool} (hn : f.name ≠ "_")
    (ha : (part f.type xs f.offset).run Tryd.prog w = .ok a w) (hb : (part f.type ys f.offset).run Tryd.prog w = .ok b w) (he : (Op.equalIn d f.type a b).run Tryd.prog w = .ok r w)
    (hs : (Op.eqFields d xs ys fs).run Tryd.prog w = .ok s w) : (Op.eqFields d xs ys (f :: fs)).run Tryd.prog w = .ok (r && s) w := by
  simp only [Op.eqFields, if_pos hn, Sem.run_bind, ha, hb, he, Result.andThen_ok, Sem.run_ite]
  cases r <;> simp [hs]

theorem opd_eq (a b : O) (w : World) : Sem.run Tryd.prog (binOp .eql 23 a.val b.val) w = .ok (.bool (a.same b)) w := by
  unfold O.val
  rw [run_eql_struct, run_equalIn_struct w 9999 23 _ _ fields_opd held_opd]
  have hl := fields_list
  generalize (Tryd.prog.fieldsOf 23).toList = fs at *
  have hlen : fs.length = 10 := by simpa using congrArg List.length hl
  match fs, hlen, hl with
  | [f0, f1, f2, f3, f4, f5, f6, f7, f8, f9], _, hl =>
    simp only [List.map_cons, List.map_nil, List.cons.injEq, Prod.mk.injEq, and_true, beq_eq_false_iff_ne] at hl
    obtain ⟨⟨n0, t0, o0⟩, ⟨n1, t1, o1⟩, ⟨n2, t2, o2⟩, ⟨n3, t3, o3⟩, ⟨n4, t4, o4⟩, ⟨n5, t5, o5⟩, ⟨n6, t6, o6⟩, ⟨n7, t7, o7⟩, ⟨n8, t8, o8⟩, ⟨n9, t9, o9⟩⟩ := hl
    have key : (Op.eqFields 9999 #[.int .i64 a.k, .int .i64 a.r, .int .i64 a.b, .int .i64 a.x, .int .i64 a.s, .bool a.rip, .bool a.fs, .int .i64 a.n, .string a.nm, .int .i64 a.m] #[.int .i64 b.k, .int .i64 b.r, .int .i64 b.b, .int .i64 b.x, .int .i64 b.s, .bool b.rip, .bool b.fs, .int .i64 b.n, .string b.nm, .int .i64 b.m] [f0, f1, f2, f3, f4, f5, f6, f7, f8, f9]).run Tryd.prog w =
        .ok (a.k == b.k && (a.r == b.r && (a.b == b.b && (a.x == b.x && (a.s == b.s && (a.rip == b.rip && (a.fs == b.fs && (a.n == b.n && (a.nm.toList == b.nm.toList && (a.m == b.m && true)))))))))) w := by
      refine eqStep n0 (a := .int .i64 a.k) (b := .int .i64 b.k) ?_ ?_ ?_ ?_
      case refine_4 =>
        refine eqStep n1 (a := .int .i64 a.r) (b := .int .i64 b.r) ?_ ?_ ?_ ?_
        case refine_4 =>
          refine eqStep n2 (a := .int .i64 a.b) (b := .int .i64 b.b) ?_ ?_ ?_ ?_
          case refine_4 =>
            refine eqStep n3 (a := .int .i64 a.x) (b := .int .i64 b.x) ?_ ?_ ?_ ?_
            case refine_4 =>
              refine eqStep n4 (a := .int .i64 a.s) (b := .int .i64 b.s) ?_ ?_ ?_ ?_
              case refine_4 =>
                refine eqStep n5 (a := .bool a.rip) (b := .bool b.rip) ?_ ?_ ?_ ?_
                case refine_4 =>
                  refine eqStep n6 (a := .bool a.fs) (b := .bool b.fs) ?_ ?_ ?_ ?_
                  case refine_4 =>
                    refine eqStep n7 (a := .int .i64 a.n) (b := .int .i64 b.n) ?_ ?_ ?_ ?_
                    case refine_4 =>
                      refine eqStep n8 (a := .string a.nm) (b := .string b.nm) ?_ ?_ ?_ ?_
                      case refine_4 =>
                        refine eqStep n9 (a := .int .i64 a.m) (b := .int .i64 b.m) ?_ ?_ ?_ (by simp [Op.eqFields])
                        all_goals simp [t9, o9, go_sem]
                      all_goals simp [t8, o8, go_sem]
                    all_goals simp [t7, o7, go_sem]
                  all_goals simp [t6, o6, go_sem]
                all_goals simp [t5, o5, go_sem]
              all_goals simp [t4, o4, go_sem]
            all_goals simp [t3, o3, go_sem]
          all_goals simp [t2, o2, go_sem]
        all_goals simp [t1, o1, go_sem]
      all_goals simp [t0, o0, go_sem]
    rw [key]
    simp [O.same, Result.andThen]

theorem lays107 : Lays.n107 Tryd.prog { f := fun k => if k = 107 then 97 else 101, t := fun k => if k = 28 then 60 else k, g := fun _ => 0 } :=
  { mixed := by kernel_rfl
    f107 := Tryd.func97.trans (congrArg some (by kernel_rfl))
    f108 := Tryd.func101.trans (congrArg some (by kernel_rfl))
    t0 := by kernel_rfl
    a0 := fun _ => by kernel_rfl
    z0 := fun _ => by kernel_rfl
    v0 := fun _ => by kernel_rfl
    t3 := by kernel_rfl
    a3 := fun _ => by kernel_rfl
    z3 := fun _ => by kernel_rfl
    v3 := fun _ => by kernel_rfl
    t4 := by kernel_rfl
    a4 := fun _ => by kernel_rfl
    z4 := fun _ => by kernel_rfl
    v4 := fun _ => by kernel_rfl
    t28 := by kernel_rfl
    a28 := fun _ => by kernel_rfl
    z28 := fun _ => by kernel_rfl
    v28 := fun _ => by kernel_rfl }

/-- A row of numbers lies in a block. -/
def Ints (w : World) (b : Nat) (zs : List Int) : Prop := ∀ j, j < zs.length → w.cell? ⟨b, j, none⟩ = some (.int .i64 (zs.getD j 0))

theorem contains_any (b n c : Nat) (zs : List Int) (x : Int) (w : World) (hn : n = zs.length) (hb : n ≤ 100) (hc : Ints w b zs) :
    Calls Tryd.prog 97 #[.slice (some ⟨b, 0, none⟩) n c, .int .i64 x] w fun e w' => e = .returned (.bool (zs.contains x)) ∧ w' = w := by
  have := Any.slices_Contains_int lays107 b 0 n c zs x w (by omega) (by omega) (fun j hj => by simpa using hc j hj)
  rw [List.take_of_length_le (by omega)] at this
  exact this

theorem Ints.bel {w v : World} {b : Nat} {zs : List Int} (h : Ints w b zs) (hb : Below w.heap.size w v) : Ints v b zs := fun j hj => to_bel hb (h j hj)

theorem nameMay_any (o : O) (b n c : Nat) (zs : List Int) (w : World) (hn : n = zs.length) (hb : n ≤ 100) (hc : Ints w b zs) :
    Calls Tryd.prog 84 #[o.val, .slice (some ⟨b, 0, none⟩) n c] w fun e w' => e = .returned (.bool (nameMayB o zs)) ∧ Below w.heap.size w w' := by
  have HC : Hid (∀ v, Below w.heap.size w v → Calls Tryd.prog 97 #[.slice (some ⟨b, 0, none⟩) n c, .int .i64 o.m] v fun e w' => e = .returned (.bool (zs.contains o.m)) ∧ w' = v) :=
    ⟨fun v hv => contains_any b n c zs o.m v hn hb (hc.bel hv)⟩
  clear hc hn hb
  unfold O.val
  cases he : empB o.nm
  · have he' : o.nm.toList.isEmpty = false := he
    obtain ⟨r, hr⟩ : ∃ r, zs.contains o.m = r := ⟨_, rfl⟩
    have HR : Hid (nameMayB o zs = (r && isNameB o.nm)) := ⟨by simp [nameMayB, he, ← hr]⟩
    rw [hr] at HC
    clear hr he
    cases r
    all_goals
      go_enter Tryd.func84, Tryd.ntmps84
      go_wp2_with (first
        | (go_at_call 97; refine (HC.out _ (bel_alloc (Below.refl _ _) _)).mono ?_; rintro e w1 ⟨rfl, hw⟩; subst w1)
        | (go_at_call 98; refine (isName_any _ _).mono ?_; rintro e w1 ⟨rfl, hw⟩; subst w1))
      go_ret
      exact ⟨ret_bool (by rw [HR.out]; rfl), bel_alloc (Below.refl _ _) _⟩
  · have he' : o.nm.toList.isEmpty = true := he
    have HR : Hid (nameMayB o zs = (o.m == 0)) := ⟨by simp [nameMayB, he]⟩
    clear he
    go_enter Tryd.func84, Tryd.ntmps84
    go_wp2
    go_ret
    exact ⟨ret_bool (by rw [HR.out]), bel_alloc (Below.refl _ _) _⟩

theorem ints_of {w : World} {b : Nat} : ∀ {zs : List Int}, (∀ j : Fin zs.length, w.cell? ⟨b, j.val, none⟩ = some (.int .i64 (zs.getD j.val 0))) → Ints w b zs := fun h j hj => h ⟨j, hj⟩
theorem ints1 {w : World} {b : Nat} {x : Int} (h0 : w.cell? ⟨b, 0, none⟩ = some (.int .i64 x)) : Ints w b [x] := by
  intro j hj
  match j, hj with
  | 0, _ => exact h0
theorem ints2 {w : World} {b : Nat} {x y : Int} (h0 : w.cell? ⟨b, 0, none⟩ = some (.int .i64 x)) (h1 : w.cell? ⟨b, 1, none⟩ = some (.int .i64 y)) : Ints w b [x, y] := by
  intro j hj
  match j, hj with
  | 0, _ => exact h0
  | 1, _ => exact h1
theorem ints3 {w : World} {b : Nat} {x y z : Int} (h0 : w.cell? ⟨b, 0, none⟩ = some (.int .i64 x)) (h1 : w.cell? ⟨b, 1, none⟩ = some (.int .i64 y)) (h2 : w.cell? ⟨b, 2, none⟩ = some (.int .i64 z)) : Ints w b [x, y, z] := by
  intro j hj
  match j, hj with
  | 0, _ => exact h0
  | 1, _ => exact h1
  | 2, _ => exact h2
theorem ints4 {w : World} {b : Nat} {x y z u : Int} (h0 : w.cell? ⟨b, 0, none⟩ = some (.int .i64 x)) (h1 : w.cell? ⟨b, 1, none⟩ = some (.int .i64 y)) (h2 : w.cell? ⟨b, 2, none⟩ = some (.int .i64 z)) (h3 : w.cell? ⟨b, 3, none⟩ = some (.int .i64 u)) : Ints w b [x, y, z, u] := by
  intro j hj
  match j, hj with
  | 0, _ => exact h0
  | 1, _ => exact h1
  | 2, _ => exact h2
  | 3, _ => exact h3

theorem indexMay_any (o : O) (w : World) :
    Calls Tryd.prog 85 #[o.val] w fun e w' => e = .returned (.bool (indexMayB o)) ∧ Below w.heap.size w w' := by
  unfold O.val
  by_cases hx : o.x = -1
  · have HR : Hid (indexMayB o = (o.s == 0)) := ⟨by simp [indexMayB, hx]⟩
    have hx' : (o.x == -1) = true := by simp [hx]
    go_enter Tryd.func85, Tryd.ntmps85
    go_wp2
    go_ret
    exact ⟨ret_bool (by rw [HR.out]), bel_alloc (Below.refl _ _) _⟩
  · obtain ⟨r, hr⟩ : ∃ r, isRegB o.x = r := ⟨_, rfl⟩
    obtain ⟨q, hq⟩ : ∃ q, (o.x != 4) = q := ⟨_, rfl⟩
    have HR : Hid (indexMayB o = (r && (q && [1, 2, 4, 8].contains o.s))) := ⟨by simp only [indexMayB, if_neg hx, hr, hq]⟩
    have hx' : (o.x == -1) = false := by simp [hx]
    have HG : Hid (∀ v, Calls Tryd.prog 44 #[.int .i64 o.x] v fun e w' => e = .returned (.bool r) ∧ w' = v) := ⟨fun v => hr ▸ isReg_any o.x v⟩
    clear hr hx
    have HC : Hid (∀ (v : World) b, Ints v b [1, 2, 4, 8] → Calls Tryd.prog 97 #[.slice (some ⟨b, 0, none⟩) 4 4, .int .i64 o.s] v fun e w' => e = .returned (.bool ([1, 2, 4, 8].contains o.s)) ∧ w' = v) :=
      ⟨fun v b hi => contains_any _ 4 4 [1, 2, 4, 8] o.s _ rfl (by omega) hi⟩
    generalize List.contains [1, 2, 4, 8] o.s = d at *
    cases r <;> cases q
    all_goals
      go_enter Tryd.func85, Tryd.ntmps85
      go_wp2_with (first
        | (go_at_call 44; refine (HG.out _).mono ?_; rintro e w1 ⟨rfl, hw⟩; subst w1)
        | (go_at_call 97; refine (HC.out _ _ (ints4 (by simp [go_sem]) (by simp [go_sem]) (by simp [go_sem]) (by simp [go_sem]))).mono ?_; rintro e w1 ⟨rfl, hw⟩; subst w1))
      go_ret
      refine ⟨ret_bool (HR.out.symm ▸ ?_), by repeat (first | exact Below.refl _ _ | refine bel_alloc ?_ _)⟩
      simp

set_option maxHeartbeats 2000000 in
theorem targetMay_any (o : O) (w : World) :
    Calls Tryd.prog 58 #[o.val] w fun e w' => e = .returned (.bool (targetMayB o)) ∧ Below w.heap.size w w' := by
  have FE : ∀ v, Sem.run Tryd.prog (binOp .eql 23 o.val (O.val ⟨4, 0, 0, 0, 0, false, false, o.n, o.nm, o.m⟩)) v = .ok (.bool (o.same ⟨4, 0, 0, 0, 0, false, false, o.n, o.nm, o.m⟩)) v := fun v => opd_eq _ _ v
  simp only [O.val] at FE
  obtain ⟨c, hc⟩ : ∃ c, o.same ⟨4, 0, 0, 0, 0, false, false, o.n, o.nm, o.m⟩ = c := ⟨_, rfl⟩
  obtain ⟨d, hd⟩ : ∃ d, nameMayB o [0, 1] = d := ⟨_, rfl⟩
  obtain ⟨f, hf⟩ : ∃ f, fitsSB o.n = f := ⟨_, rfl⟩
  obtain ⟨g, hg⟩ : ∃ g, o.nm.toList.isEmpty = g := ⟨_, rfl⟩
  have HR : Hid (targetMayB o = (c && (d && (f && (g || o.n == 0))))) := ⟨by simp only [targetMayB, hc, hd, hf, empB, hg]⟩
  have HN : Hid (∀ (v : World) b, Ints v b [0, 1] → Calls Tryd.prog 84 #[.agg #[.int .i64 o.k, .int .i64 o.r, .int .i64 o.b, .int .i64 o.x, .int .i64 o.s, .bool o.rip, .bool o.fs, .int .i64 o.n, .string o.nm, .int .i64 o.m], .slice (some ⟨b, 0, none⟩) 2 2] v fun e w' => e = .returned (.bool d) ∧ Below v.heap.size v w') :=
    ⟨fun v b hi => hd ▸ nameMay_any o b 2 2 [0, 1] v rfl (by omega) hi⟩
  have HF : Hid (∀ v, Calls Tryd.prog 86 #[.int .i64 o.n] v fun e w' => e = .returned (.bool f) ∧ w' = v) := ⟨fun v => hf ▸ fitsS_any o.n v⟩
  rw [hc] at FE
  unfold O.val
  clear hc hd hf
  cases c
  · go_enter Tryd.func58, Tryd.ntmps58
    go_wp2
    go_ret
    exact ⟨ret_bool (by rw [HR.out]; rfl), by repeat (first | exact Below.refl _ _ | refine bel_alloc ?_ _)⟩
  · rcases d with _ | _
    case' true => rcases f with _ | _
    case' true.true => rcases g with _ | _
    all_goals
      go_enter Tryd.func58, Tryd.ntmps58
      go_wp2_with (first
        | (go_at_call 84; refine (HN.out _ _ (ints2 (by simp [go_sem]) (by simp [go_sem]))).mono ?_; rintro e w1 ⟨rfl, hb⟩; obtain ⟨hcl, hfl⟩ := bcell hb; have hz : w.heap.size < w1.heap.size := (by have := hb.size; simp at this; omega))
        | (go_at_call 86; refine (HF.out _).mono ?_; rintro e w2 ⟨rfl, hw⟩; subst w2))
      go_ret
      exact ⟨ret_bool (by rw [HR.out]; rfl), by refine bel_trans ?_ hb; repeat (first | exact Below.refl _ _ | refine bel_alloc ?_ _)⟩
end Go.Proofs.YtdgejingoamfeaaDoor
